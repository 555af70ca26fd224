/- The contracts of kinds' all, Len, Find, has, Signal, named. Conditions: at most 1000000 signals. -/
import Derived.Test.YtjnnjjajlafchaaKnB
import Derived.Test.YtjnnjjajlafchaaBz3
import Derived.Deep.RegionHeld3
import Derived.Test.YtjnnjjajlafchaaKnA
namespace Go.Proofs.Ytjnnjjajlafchaa
open Go.RowKit
set_option linter.unusedVariables false
set_option maxRecDepth 100000

/-- Names at p that have these signals. -/
def NmAt (W : World) (p : Nat) (l : List Sig) : Prop := ∃ a cap, W.cell? ⟨p, 0, none⟩ = some (.slice a l.length cap) ∧ SigRow W a l
theorem NmAt.below {W W' : World} {p : Nat} {l : List Sig} (h : NmAt W p l) (k : Below W.heap.size W W') : NmAt W' p l := by
  obtain ⟨a, cap, hc, hr⟩ := h
  refine ⟨a, cap, ?_, hr.below k⟩
  rw [k.cell (p := ⟨p, 0, none⟩) (World.block_lt_of_cell? W _ hc)]; exact hc
set_option maxHeartbeats 400000 in
theorem all_any (p : Nat) (v : Value) (W : World) (h : W.cell? ⟨p, 0, none⟩ = some v) :
    Calls Try.prog 27 #[.pointer (some ⟨p, 0, none⟩)] W fun e W' => e = .returned v ∧ W' = W := by
  go_enter Try.func27, Try.ntmps27
  go_wp2
  go_ret
  exact ⟨rfl, rfl⟩
set_option maxHeartbeats 400000 in
theorem all_nil (W : World) :
    Calls Try.prog 27 #[.pointer none] W fun e W' => e = .returned (.slice none 0 0) ∧ W' = W := by
  go_enter Try.func27, Try.ntmps27
  go_wp2
  go_ret
  exact ⟨rfl, rfl⟩
set_option maxHeartbeats 400000 in
theorem len_any (p : Nat) (a : Option Addr) (n cap : Nat) (W : World) (h : W.cell? ⟨p, 0, none⟩ = some (.slice a n cap)) :
    Calls Try.prog 14 #[.pointer (some ⟨p, 0, none⟩)] W fun e W' => e = .returned (.int .i64 n) ∧ W' = W := by
  go_enter Try.func14, Try.ntmps14
  go_wp2_with (go_at_call 27; refine (all_any p _ _ h).mono ?_; rintro e w' ⟨rfl, rfl⟩)
  go_ret
  exact ⟨rfl, rfl⟩
set_option maxHeartbeats 400000 in
theorem len_nil (W : World) :
    Calls Try.prog 14 #[.pointer none] W fun e W' => e = .returned (.int .i64 0) ∧ W' = W := by
  go_enter Try.func14, Try.ntmps14
  go_wp2_with (go_at_call 27; refine (all_nil _).mono ?_; rintro e w' ⟨rfl, rfl⟩)
  go_ret
  exact ⟨rfl, rfl⟩

/-- What Find tells. -/
def FindSays (l : List Sig) (s : ByteArray) (e : Ending) : Prop := e = .returned (.tuple #[.int .i64 (if idxN l s < l.length then (idxN l s : Int) else 0), .int .i64 (if idxN l s < l.length then 0 else 40)])
set_option maxHeartbeats 1000000 in
theorem find_yes (p : Nat) (l : List Sig) (s : ByteArray) (W : World) (h : NmAt W p l) (hl : l.length ≤ 1000000) (hi : idxN l s < l.length) :
    Calls Try.prog 12 #[.pointer (some ⟨p, 0, none⟩), .string s] W fun e W' => e = .returned (.tuple #[.int .i64 (idxN l s), .int .i64 0]) ∧ Below W.heap.size W W' := by
  have hlt : p < W.heap.size := by obtain ⟨a, cap, hc, _⟩ := h; exact World.block_lt_of_cell? W _ hc
  have hb0 : Below W.heap.size W (W.alloc (.cells #[.string s] 9)) := (Below.refl _ _).alloc (Nat.le_refl _) _
  obtain ⟨a, cap, hc, hr⟩ := h.below hb0
  have HB0 : Hid (Below W.heap.size W (W.alloc (.cells #[.string s] 9))) := hb0
  have HI := indexSig_any a cap l W.heap.size s _ hr (by simp [go_sem]) (by omega)
  have HE : idxI l s = idxN l s := by unfold idxI; rw [if_pos hi]
  rw [HE] at HI
  clear HE
  generalize idxN l s = n at *
  have HH : Hid (Calls Try.prog 26 #[.slice a l.length cap, .func (.func 28) #[] #[.pointer (some ⟨W.heap.size, 0, none⟩)]] (W.alloc (.cells #[.string s] 9)) fun e W' => e = .returned (.int .i64 n) ∧ Below (W.alloc (.cells #[.string s] 9)).heap.size (W.alloc (.cells #[.string s] 9)) W') := HI
  have HC : Hid ((W.alloc (.cells #[.string s] 9)).cell? ⟨p, 0, none⟩ = some (.slice a l.length cap)) := hc
  clear hb0 hr HI hc h
  go_enter Try.func12, Try.ntmps12
  go_wp2_with (first
    | (go_at_call 27; refine (all_any p _ _ HC.out).mono ?_; rintro e w' ⟨rfl, rfl⟩)
    | (go_at_call 26; refine HH.out.mono ?_; rintro e w' ⟨rfl, hw⟩))
  go_ret2
  exact ⟨rfl, HB0.out.trans (hw.mono HB0.out.size)⟩
set_option maxHeartbeats 1000000 in
theorem find_no (p : Nat) (l : List Sig) (s : ByteArray) (W : World) (h : NmAt W p l) (hl : l.length ≤ 1000000) (hi : ¬ idxN l s < l.length) :
    Calls Try.prog 12 #[.pointer (some ⟨p, 0, none⟩), .string s] W fun e W' => e = .returned (.tuple #[.int .i64 0, .int .i64 40]) ∧ Below W.heap.size W W' := by
  have hlt : p < W.heap.size := by obtain ⟨a, cap, hc, _⟩ := h; exact World.block_lt_of_cell? W _ hc
  have hb0 : Below W.heap.size W (W.alloc (.cells #[.string s] 9)) := (Below.refl _ _).alloc (Nat.le_refl _) _
  obtain ⟨a, cap, hc, hr⟩ := h.below hb0
  have HB0 : Hid (Below W.heap.size W (W.alloc (.cells #[.string s] 9))) := hb0
  have HI := indexSig_any a cap l W.heap.size s _ hr (by simp [go_sem]) (by omega)
  have HE : idxI l s = -1 := by unfold idxI; rw [if_neg hi]
  rw [HE] at HI
  clear HE hi
  have HH : Hid (Calls Try.prog 26 #[.slice a l.length cap, .func (.func 28) #[] #[.pointer (some ⟨W.heap.size, 0, none⟩)]] (W.alloc (.cells #[.string s] 9)) fun e W' => e = .returned (.int .i64 (-1)) ∧ Below (W.alloc (.cells #[.string s] 9)).heap.size (W.alloc (.cells #[.string s] 9)) W') := HI
  have HC : Hid ((W.alloc (.cells #[.string s] 9)).cell? ⟨p, 0, none⟩ = some (.slice a l.length cap)) := hc
  clear hb0 hr HI hc h
  go_enter Try.func12, Try.ntmps12
  go_wp2_with (first
    | (go_at_call 27; refine (all_any p _ _ HC.out).mono ?_; rintro e w' ⟨rfl, rfl⟩)
    | (go_at_call 26; refine HH.out.mono ?_; rintro e w' ⟨rfl, hw⟩))
  go_ret2
  exact ⟨rfl, HB0.out.trans (hw.mono HB0.out.size)⟩
set_option maxHeartbeats 1000000 in
theorem find_nil (s : ByteArray) (W : World) :
    Calls Try.prog 12 #[.pointer none, .string s] W fun e W' => e = .returned (.tuple #[.int .i64 0, .int .i64 40]) ∧ Below W.heap.size W W' := by
  have hb0 : Below W.heap.size W (W.alloc (.cells #[.string s] 9)) := (Below.refl _ _).alloc (Nat.le_refl _) _
  have HB0 : Hid (Below W.heap.size W (W.alloc (.cells #[.string s] 9))) := hb0
  have HI := indexSig_any none 0 [] W.heap.size s (W.alloc (.cells #[.string s] 9)) (fun i hi => by simp at hi) (by simp [go_sem]) (by simp)
  have HE : idxI [] s = -1 := by simp [idxI]
  rw [HE] at HI
  clear HE
  have HH : Hid (Calls Try.prog 26 #[.slice none 0 0, .func (.func 28) #[] #[.pointer (some ⟨W.heap.size, 0, none⟩)]] (W.alloc (.cells #[.string s] 9)) fun e W' => e = .returned (.int .i64 (-1)) ∧ Below (W.alloc (.cells #[.string s] 9)).heap.size (W.alloc (.cells #[.string s] 9)) W') := HI
  clear hb0 HI
  go_enter Try.func12, Try.ntmps12
  go_wp2_with (first
    | (go_at_call 27; refine (all_nil _).mono ?_; rintro e w' ⟨rfl, rfl⟩)
    | (go_at_call 26; refine HH.out.mono ?_; rintro e w' ⟨rfl, hw⟩))
  go_ret2
  exact ⟨rfl, HB0.out.trans (hw.mono HB0.out.size)⟩
def hasB (l : List Sig) (s : ByteArray) : Bool := decide (idxN l s < l.length)
set_option maxHeartbeats 400000 in
theorem has_any (p : Nat) (l : List Sig) (s : ByteArray) (W : World) (h : NmAt W p l) (hl : l.length ≤ 1000000) :
    Calls Try.prog 40 #[.pointer (some ⟨p, 0, none⟩), .string s] W fun e W' => e = .returned (.bool (hasB l s)) ∧ Below W.heap.size W W' := by
  by_cases hi : idxN l s < l.length
  · have hf := find_yes p l s W h hl hi
    have HE : Hid (hasB l s = true) := by simp [Hid, hasB, hi]
    clear hi
    go_enter Try.func40, Try.ntmps40
    go_wp2_with (go_at_call 12; refine hf.mono ?_; rintro e w' ⟨rfl, hw⟩)
    go_ret
    exact ⟨ret_bool HE.out.symm, hw⟩
  · have hf := find_no p l s W h hl hi
    have HE : Hid (hasB l s = false) := by simp only [Hid, hasB]; simpa using hi
    clear hi
    go_enter Try.func40, Try.ntmps40
    go_wp2_with (go_at_call 12; refine hf.mono ?_; rintro e w' ⟨rfl, hw⟩)
    go_ret
    exact ⟨ret_bool HE.out.symm, hw⟩
def sigV (x : Sig) : Value := .agg #[.string x.name, .string x.unit, .int .i64 x.lo, .int .i64 x.hi]
set_option maxHeartbeats 400000 in
theorem signal_in (p : Nat) (l : List Sig) (k : Nat) (W : World) (h : NmAt W p l) (hl : l.length ≤ 1000000) (hk : k < l.length) :
    Calls Try.prog 15 #[.pointer (some ⟨p, 0, none⟩), .int .i64 k] W fun e W' => e = .returned (.tuple #[.agg #[.string (l.getD k sig0).name, .string (l.getD k sig0).unit, .int .i64 (l.getD k sig0).lo, .int .i64 (l.getD k sig0).hi], .int .i64 0]) ∧ Below W.heap.size W W' := by
  obtain ⟨a, cap, hc, hr⟩ := h
  have hlt : p < W.heap.size := World.block_lt_of_cell? W _ hc
  obtain ⟨b, off, rfl, h0, h1, h2, h3⟩ := hr k hk
  have hblt : b < W.heap.size := World.block_lt_of_cell? W _ h0
  have hbne : b ≠ W.heap.size := by omega
  have hpne : p ≠ W.heap.size := by omega
  have HA : Hid (Calls Try.prog 14 #[.pointer (some ⟨p, 0, none⟩)] (W.alloc (.cells #[.string ⟨#[]⟩, .string ⟨#[]⟩, .int .i64 0, .int .i64 0] 27)) fun e W' => e = .returned (.int .i64 l.length) ∧ W' = (W.alloc (.cells #[.string ⟨#[]⟩, .string ⟨#[]⟩, .int .i64 0, .int .i64 0] 27))) := len_any p _ l.length cap _ (by rw [((Below.refl _ W).alloc (Nat.le_refl _) _).cell (p := ⟨p, 0, none⟩) hlt]; exact hc)
  clear hr
  generalize l.getD k sig0 = x at *
  obtain ⟨xn, xu, xl, xh⟩ := x
  simp only at h0 h1 h2 h3
  go_enter Try.func15, Try.ntmps15
  go_wp2_with (go_at_call 14; refine HA.out.mono ?_; rintro e w' ⟨rfl, hw9⟩; subst w')
  refine bodyPost_ret (v := .tuple #[.agg #[.string xn, .string xu, .int .i64 xl, .int .i64 xh], .int .i64 0]) (by simp [results, Try.results15, go_sem]) rfl ⟨rfl, ?_⟩
  exact (Below.refl _ _).alloc (Nat.le_refl _) _
set_option maxHeartbeats 400000 in
theorem signal_out (p : Nat) (l : List Sig) (i : Int) (W : World) (h : NmAt W p l) (hl : l.length ≤ 1000000) (hi : i < 0 ∨ (l.length : Int) ≤ i) :
    Calls Try.prog 15 #[.pointer (some ⟨p, 0, none⟩), .int .i64 i] W fun e W' => e = .returned (.tuple #[.agg #[.string ⟨#[]⟩, .string ⟨#[]⟩, .int .i64 0, .int .i64 0], .int .i64 3]) ∧ Below W.heap.size W W' := by
  obtain ⟨a, cap, hc, hr⟩ := h
  have hlt : p < W.heap.size := World.block_lt_of_cell? W _ hc
  have HA : Hid (Calls Try.prog 14 #[.pointer (some ⟨p, 0, none⟩)] (W.alloc (.cells #[.string ⟨#[]⟩, .string ⟨#[]⟩, .int .i64 0, .int .i64 0] 27)) fun e W' => e = .returned (.int .i64 l.length) ∧ W' = (W.alloc (.cells #[.string ⟨#[]⟩, .string ⟨#[]⟩, .int .i64 0, .int .i64 0] 27))) := len_any p _ l.length cap _ (by rw [((Below.refl _ W).alloc (Nat.le_refl _) _).cell (p := ⟨p, 0, none⟩) hlt]; exact hc)
  clear hr hc
  by_cases hn : i < 0
  · clear hi
    go_enter Try.func15, Try.ntmps15
    go_wp2_with (go_at_call 14; refine HA.out.mono ?_; rintro e w' ⟨rfl, hw9⟩; subst w')
    refine bodyPost_ret (v := .tuple #[.agg #[.string ⟨#[]⟩, .string ⟨#[]⟩, .int .i64 0, .int .i64 0], .int .i64 3]) (by simp [results, Try.results15, go_sem]) rfl ⟨rfl, ?_⟩
    exact (Below.refl _ _).alloc (Nat.le_refl _) _
  · have hn2 : (l.length : Int) ≤ i := by omega
    clear hi
    go_enter Try.func15, Try.ntmps15
    go_wp2_with (go_at_call 14; refine HA.out.mono ?_; rintro e w' ⟨rfl, hw9⟩; subst w')
    refine bodyPost_ret (v := .tuple #[.agg #[.string ⟨#[]⟩, .string ⟨#[]⟩, .int .i64 0, .int .i64 0], .int .i64 3]) (by simp [results, Try.results15, go_sem]) rfl ⟨rfl, ?_⟩
    exact (Below.refl _ _).alloc (Nat.le_refl _) _
set_option maxHeartbeats 400000 in
theorem signal_nil (i : Int) (W : World) :
    Calls Try.prog 15 #[.pointer none, .int .i64 i] W fun e W' => e = .returned (.tuple #[.agg #[.string ⟨#[]⟩, .string ⟨#[]⟩, .int .i64 0, .int .i64 0], .int .i64 3]) ∧ Below W.heap.size W W' := by
  by_cases hn : i < 0
  · go_enter Try.func15, Try.ntmps15
    go_wp2_with (go_at_call 14; refine (len_nil _).mono ?_; rintro e w' ⟨rfl, hw9⟩; subst w')
    refine bodyPost_ret (v := .tuple #[.agg #[.string ⟨#[]⟩, .string ⟨#[]⟩, .int .i64 0, .int .i64 0], .int .i64 3]) (by simp [results, Try.results15, go_sem]) rfl ⟨rfl, ?_⟩
    exact (Below.refl _ _).alloc (Nat.le_refl _) _
  · have hn2 : (0 : Int) ≤ i := by omega
    go_enter Try.func15, Try.ntmps15
    go_wp2_with (go_at_call 14; refine (len_nil _).mono ?_; rintro e w' ⟨rfl, hw9⟩; subst w')
    refine bodyPost_ret (v := .tuple #[.agg #[.string ⟨#[]⟩, .string ⟨#[]⟩, .int .i64 0, .int .i64 0], .int .i64 3]) (by simp [results, Try.results15, go_sem]) rfl ⟨rfl, ?_⟩
    exact (Below.refl _ _).alloc (Nat.le_refl _) _
set_option maxHeartbeats 1000000 in
theorem named_any (p : Nat) (l : List Sig) (s : ByteArray) (W : World) (h : NmAt W p l) (hl : l.length ≤ 1000000) (hi : idxN l s < l.length) :
    Calls Try.prog 46 #[.pointer (some ⟨p, 0, none⟩), .string s] W fun e W' => e = .returned (.agg #[.string (l.getD (idxN l s) sig0).name, .string (l.getD (idxN l s) sig0).unit, .int .i64 (l.getD (idxN l s) sig0).lo, .int .i64 (l.getD (idxN l s) sig0).hi]) ∧ Below W.heap.size W W' := by
  have hb0 : Below W.heap.size W (W.alloc (.cells #[.string ⟨#[]⟩, .string ⟨#[]⟩, .int .i64 0, .int .i64 0] 27)) := (Below.refl _ _).alloc (Nat.le_refl _) _
  have HB0 : Hid (Below W.heap.size W (W.alloc (.cells #[.string ⟨#[]⟩, .string ⟨#[]⟩, .int .i64 0, .int .i64 0] 27))) := hb0
  have HF := find_yes p l s _ (h.below hb0) hl hi
  have HS : Hid (∀ X, Below (W.alloc (.cells #[.string ⟨#[]⟩, .string ⟨#[]⟩, .int .i64 0, .int .i64 0] 27)).heap.size (W.alloc (.cells #[.string ⟨#[]⟩, .string ⟨#[]⟩, .int .i64 0, .int .i64 0] 27)) X → Calls Try.prog 15 #[.pointer (some ⟨p, 0, none⟩), .int .i64 (idxN l s)] X fun e W' => e = .returned (.tuple #[.agg #[.string (l.getD (idxN l s) sig0).name, .string (l.getD (idxN l s) sig0).unit, .int .i64 (l.getD (idxN l s) sig0).lo, .int .i64 (l.getD (idxN l s) sig0).hi], .int .i64 0]) ∧ Below X.heap.size X W') :=
    fun X hX => signal_in p l (idxN l s) X ((h.below hb0).below hX) hl hi
  generalize l.getD (idxN l s) sig0 = x at *
  generalize idxN l s = n at *
  obtain ⟨xn, xu, xl, xh⟩ := x
  simp only at HS
  have HF2 : Hid (Calls Try.prog 12 #[.pointer (some ⟨p, 0, none⟩), .string s] (W.alloc (.cells #[.string ⟨#[]⟩, .string ⟨#[]⟩, .int .i64 0, .int .i64 0] 27)) fun e W' => e = .returned (.tuple #[.int .i64 n, .int .i64 0]) ∧ Below (W.alloc (.cells #[.string ⟨#[]⟩, .string ⟨#[]⟩, .int .i64 0, .int .i64 0] 27)).heap.size (W.alloc (.cells #[.string ⟨#[]⟩, .string ⟨#[]⟩, .int .i64 0, .int .i64 0] 27)) W') := HF
  clear HF h hb0
  go_enter Try.func46, Try.ntmps46
  go_wp2_with fail
  refine Calls.mono HF2.out ?_
  rintro e W1 ⟨rfl, hb1⟩
  have HB1 : Hid (Below W.heap.size W W1) := HB0.out.trans (hb1.mono HB0.out.size)
  go_wp2_with fail
  refine Calls.mono (HS.out _ hb1) ?_
  rintro e W2 ⟨rfl, hb2⟩
  have HB2 : Hid (Below W.heap.size W W2) := HB1.out.trans (hb2.mono HB1.out.size)
  have b12 := hb1.trans (hb2.mono hb1.size)
  have c0 : W2.cell? ⟨W.heap.size, 0, none⟩ = some (.string ⟨#[]⟩) := by rw [b12.cell (p := ⟨W.heap.size, 0, none⟩) (by simp)]; simp [go_sem]
  have c1 : W2.cell? ⟨W.heap.size, 1, none⟩ = some (.string ⟨#[]⟩) := by rw [b12.cell (p := ⟨W.heap.size, 1, none⟩) (by simp)]; simp [go_sem]
  have c2 : W2.cell? ⟨W.heap.size, 2, none⟩ = some (.int .i64 0) := by rw [b12.cell (p := ⟨W.heap.size, 2, none⟩) (by simp)]; simp [go_sem]
  have c3 : W2.cell? ⟨W.heap.size, 3, none⟩ = some (.int .i64 0) := by rw [b12.cell (p := ⟨W.heap.size, 3, none⟩) (by simp)]; simp [go_sem]
  have f0 : ∀ j, W2.frozen? ⟨W.heap.size, j, none⟩ = false := fun j => by rw [b12.frozen (p := ⟨W.heap.size, j, none⟩) (by simp)]; simp [go_sem]
  have hlt2 : W.heap.size < W2.heap.size := by have := b12.size; simp at this; omega
  clear hb1 hb2 b12
  go_wp2
  refine bodyPost_ret (v := .agg #[.string xn, .string xu, .int .i64 xl, .int .i64 xh]) (by simp [results, Try.results46, go_sem, c0, c1, c2, c3, cell_alloc_lt, hlt2]) rfl ⟨rfl, ?_⟩
  refine Below.alloc (below_set (below_set (below_set (below_set HB2.out _ _ _ (Nat.le_refl _)) _ _ _ (Nat.le_refl _)) _ _ _ (Nat.le_refl _)) _ _ _ (Nat.le_refl _)) ?_ _
  have := HB2.out.size; simp; omega
end Go.Proofs.Ytjnnjjajlafchaa

namespace Go.Proofs.Ytjnnjjajlafchaa
open Go.RowKit
set_option linter.unusedVariables false
set_option maxRecDepth 100000

def sigC (x : Sig) : List Value := [.string x.name, .string x.unit, .int .i64 x.lo, .int .i64 x.hi]
theorem sigC_len (x : Sig) : (sigC x).length = 4 := rfl
theorem sigC_one (x : Sig) : ∀ u ∈ sigC x, u.oneCell' = true := by
  intro u hu
  simp only [sigC, List.mem_cons, List.not_mem_nil, or_false] at hu
  rcases hu with rfl | rfl | rfl | rfl <;> rfl
def OSig (W : World) (B : Nat) (v : Value) (l : List Sig) : Prop := Own sigC 27 4 W B v l
theorem OSig.row {W : World} {B : Nat} {v : Value} {l : List Sig} (h : OSig W B v l) : ∃ a cap, v = .slice a l.length cap ∧ SigRow W a l ∧ ∀ g, v.ownBlock = some g → g < W.heap.size := by
  obtain ⟨a, cap, rfl, h1, h2, h3⟩ := Own.sl sigC_len sig0 h
  refine ⟨a, cap, rfl, fun i hi => ?_, fun g hg => (Own.lt h g hg).2⟩
  obtain ⟨g, rfl, _, _, hj⟩ := h3 i hi
  refine ⟨g, 0, rfl, ?_, ?_, ?_, ?_⟩
  · have := hj 0 (by omega); simpa [sigC] using this
  · have := hj 1 (by omega); simpa [sigC] using this
  · have := hj 2 (by omega); simpa [sigC] using this
  · have := hj 3 (by omega); simpa [sigC] using this
/-- Names at p that are being made: all of theirs lies from block B on. -/
structure NmOwn (W : World) (B p : Nat) (v : Value) (l : List Sig) : Prop where
  cell : W.cell? ⟨p, 0, none⟩ = some v
  frz : W.frozen? ⟨p, 0, none⟩ = false
  own : OSig W B v l
  base : B ≤ p
  ne : v.ownBlock ≠ some p
theorem NmOwn.at {W : World} {B p : Nat} {v : Value} {l : List Sig} (h : NmOwn W B p v l) : NmAt W p l := by
  obtain ⟨a, cap, rfl, hr, _⟩ := h.own.row
  exact ⟨a, cap, h.cell, hr⟩
theorem NmOwn.below {W W' : World} {B p : Nat} {v : Value} {l : List Sig} (h : NmOwn W B p v l) (k : Below W.heap.size W W') : NmOwn W' B p v l := by
  have hlt := World.block_lt_of_cell? W _ h.cell
  exact ⟨by rw [k.cell (p := ⟨p, 0, none⟩) hlt]; exact h.cell, by rw [k.frozen (p := ⟨p, 0, none⟩) hlt]; exact h.frz, Own.below h.own k, h.base, h.ne⟩
theorem infoSig : (Try.prog.info? 27).map (fun i => (i.zero, i.size, i.bytes)) = some (some (.agg #[.string ⟨#[]⟩, .string ⟨#[]⟩, .int .i64 0, .int .i64 0]), 4, 48) := by kernel_rfl
def isNameB (s : ByteArray) : Bool := isNameL s.data.toList
theorem isNameB_any (s : ByteArray) (w : World) (hs : s.size ≤ 9223372036854775807) :
    Calls Try.prog 39 #[.string s] w fun e w' => e = .returned (.bool (isNameB s)) ∧ w' = w := by
  have := isName_any s.data.toList w (by simpa using hs)
  rw [strL_of] at this; exact this
/-- What add tells of a signal. -/
def addE (l : List Sig) (x : Sig) : Int := if isNameB x.name = false ∨ hasB l x.name = true then 40 else if x.hi < x.lo then 42 else 0
set_option maxHeartbeats 1000000 in
theorem add_bad (p B : Nat) (v : Value) (l : List Sig) (x : Sig) (W : World) (h : NmOwn W B p v l) (hl : l.length ≤ 1000) (hs : x.name.size ≤ 9223372036854775807) (he : addE l x ≠ 0) :
    Calls Try.prog 23 #[.pointer (some ⟨p, 0, none⟩), .agg #[.string x.name, .string x.unit, .int .i64 x.lo, .int .i64 x.hi]] W fun e W' => e = .returned (.int .i64 (addE l x)) ∧ Below W.heap.size W W' := by
  obtain ⟨xn, xu, xl, xh⟩ := x
  simp only at hs
  have hb0 : Below W.heap.size W (W.alloc (.cells #[.string xn, .string xu, .int .i64 xl, .int .i64 xh] 27)) := (Below.refl _ _).alloc (Nat.le_refl _) _
  have HB0 : Hid (Below W.heap.size W (W.alloc (.cells #[.string xn, .string xu, .int .i64 xl, .int .i64 xh] 27))) := hb0
  have HN : Hid (∀ X, Calls Try.prog 39 #[.string xn] X fun e w' => e = .returned (.bool (isNameB xn)) ∧ w' = X) := fun X => isNameB_any xn X hs
  have HH : Hid (Calls Try.prog 40 #[.pointer (some ⟨p, 0, none⟩), .string xn] (W.alloc (.cells #[.string xn, .string xu, .int .i64 xl, .int .i64 xh] 27)) fun e W' => e = .returned (.bool (hasB l xn)) ∧ Below (W.alloc (.cells #[.string xn, .string xu, .int .i64 xl, .int .i64 xh] 27)).heap.size (W.alloc (.cells #[.string xn, .string xu, .int .i64 xl, .int .i64 xh] 27)) W') := has_any p l xn _ (h.at.below hb0) (by omega)
  clear hb0 h
  cases h1 : isNameB xn with
  | false =>
    have HE : Hid (addE l ⟨xn, xu, xl, xh⟩ = 40) := by simp [Hid, addE, h1]
    rw [h1] at HN
    clear h1 he HH
    go_enter Try.func23, Try.ntmps23
    go_wp2_with (go_at_call 39; refine (HN.out _).mono ?_; rintro e w' ⟨rfl, hw9⟩; subst w')
    go_ret
    exact ⟨ret_int HE.out.symm, HB0.out⟩
  | true =>
    rw [h1] at HN
    cases h2 : hasB l xn with
    | true =>
      have HE : Hid (addE l ⟨xn, xu, xl, xh⟩ = 40) := by simp [Hid, addE, h2]
      rw [h2] at HH
      clear h1 h2 he
      go_enter Try.func23, Try.ntmps23
      go_wp2_with (first
        | (go_at_call 39; refine (HN.out _).mono ?_; rintro e w' ⟨rfl, hw9⟩; subst w')
        | (go_at_call 40; refine HH.out.mono ?_; rintro e w' ⟨rfl, hw⟩))
      go_ret
      exact ⟨ret_int HE.out.symm, HB0.out.trans (hw.mono HB0.out.size)⟩
    | false =>
      rw [h2] at HH
      have hlo : xh < xl := by
        rcases Int.lt_or_le xh xl with q | q
        · exact q
        · exact absurd (by simp [addE, h1, h2]; omega) he
      have HE : Hid (addE l ⟨xn, xu, xl, xh⟩ = 42) := by simp [Hid, addE, h1, h2, hlo]
      have HM : Hid (∀ X, Calls Try.prog 41 #[.agg #[.int .i64 xl, .int .i64 xh]] X fun e w' => e = .returned (.bool true) ∧ Below X.heap.size X w') := fun X => sempty_any xl xh true X (by simpa using hlo)
      clear h1 h2 he hlo
      go_enter Try.func23, Try.ntmps23
      go_wp2_with (go_at_call 39; refine (HN.out _).mono ?_; rintro e w' ⟨rfl, hw9⟩; subst w')
      refine Calls.mono HH.out ?_
      rintro e W1 ⟨rfl, hb1⟩
      have HB1 : Hid (Below W.heap.size W W1) := HB0.out.trans (hb1.mono HB0.out.size)
      have c2 : W1.cell? ⟨W.heap.size, 2, none⟩ = some (.int .i64 xl) := by rw [hb1.cell (p := ⟨W.heap.size, 2, none⟩) (by simp)]; simp [go_sem]
      have c3 : W1.cell? ⟨W.heap.size, 3, none⟩ = some (.int .i64 xh) := by rw [hb1.cell (p := ⟨W.heap.size, 3, none⟩) (by simp)]; simp [go_sem]
      clear hb1
      go_wp2_with (go_at_call 41; refine (HM.out _).mono ?_; rintro e w' ⟨rfl, hw⟩)
      go_ret
      exact ⟨ret_int HE.out.symm, HB1.out.trans (hw.mono HB1.out.size)⟩
set_option maxHeartbeats 2000000 in
theorem add_good (p B : Nat) (v : Value) (l : List Sig) (x : Sig) (W : World) (h : NmOwn W B p v l) (hB : B ≤ W.heap.size) (hl : l.length ≤ 1000) (hs : x.name.size ≤ 9223372036854775807) (he : addE l x = 0) :
    Calls Try.prog 23 #[.pointer (some ⟨p, 0, none⟩), .agg #[.string x.name, .string x.unit, .int .i64 x.lo, .int .i64 x.hi]] W fun e W' => e = .returned (.int .i64 0) ∧ Below B W W' ∧ ∃ v', NmOwn W' B p v' (l ++ [x]) := by
  obtain ⟨xn, xu, xl, xh⟩ := x
  simp only at hs
  have hb0 : Below W.heap.size W (W.alloc (.cells #[.string xn, .string xu, .int .i64 xl, .int .i64 xh] 27)) := (Below.refl _ _).alloc (Nat.le_refl _) _
  have HB0 : Hid (Below W.heap.size W (W.alloc (.cells #[.string xn, .string xu, .int .i64 xl, .int .i64 xh] 27))) := hb0
  have HN : Hid (∀ X, Calls Try.prog 39 #[.string xn] X fun e w' => e = .returned (.bool (isNameB xn)) ∧ w' = X) := fun X => isNameB_any xn X hs
  have HH : Hid (Calls Try.prog 40 #[.pointer (some ⟨p, 0, none⟩), .string xn] (W.alloc (.cells #[.string xn, .string xu, .int .i64 xl, .int .i64 xh] 27)) fun e W' => e = .returned (.bool (hasB l xn)) ∧ Below (W.alloc (.cells #[.string xn, .string xu, .int .i64 xl, .int .i64 xh] 27)).heap.size (W.alloc (.cells #[.string xn, .string xu, .int .i64 xl, .int .i64 xh] 27)) W') := has_any p l xn _ (h.at.below hb0) (by omega)
  have h1 : isNameB xn = true := by
    cases q : isNameB xn with
    | true => rfl
    | false => simp [addE, q] at he
  have h2 : hasB l xn = false := by
    cases q : hasB l xn with
    | false => rfl
    | true => simp [addE, q] at he
  have h3 : ¬ xh < xl := by
    intro q
    simp [addE, h1, h2, q] at he
  have HM : Hid (∀ X, Calls Try.prog 41 #[.agg #[.int .i64 xl, .int .i64 xh]] X fun e w' => e = .returned (.bool false) ∧ Below X.heap.size X w') := fun X => sempty_any xl xh false X (by simpa using h3)
  rw [h1] at HN
  rw [h2] at HH
  have HO : Hid (∀ X, Below W.heap.size W X → NmOwn X B p v l) := fun X hX => h.below hX
  have HBB : Hid (B ≤ W.heap.size) := hB
  clear h1 h2 h3 he h hb0 hB
  go_enter Try.func23, Try.ntmps23
  go_wp2_with (go_at_call 39; refine (HN.out _).mono ?_; rintro e w' ⟨rfl, hw9⟩; subst w')
  refine Calls.mono HH.out ?_
  rintro e W1 ⟨rfl, hb1⟩
  have HB1 : Hid (Below W.heap.size W W1) := HB0.out.trans (hb1.mono HB0.out.size)
  have c0 : W1.cell? ⟨W.heap.size, 0, none⟩ = some (.string xn) := by rw [hb1.cell (p := ⟨W.heap.size, 0, none⟩) (by simp)]; simp [go_sem]
  have c1 : W1.cell? ⟨W.heap.size, 1, none⟩ = some (.string xu) := by rw [hb1.cell (p := ⟨W.heap.size, 1, none⟩) (by simp)]; simp [go_sem]
  have c2 : W1.cell? ⟨W.heap.size, 2, none⟩ = some (.int .i64 xl) := by rw [hb1.cell (p := ⟨W.heap.size, 2, none⟩) (by simp)]; simp [go_sem]
  have c3 : W1.cell? ⟨W.heap.size, 3, none⟩ = some (.int .i64 xh) := by rw [hb1.cell (p := ⟨W.heap.size, 3, none⟩) (by simp)]; simp [go_sem]
  have hlt1 : W.heap.size < W1.heap.size := by have := hb1.size; simp at this; omega
  clear hb1
  go_wp2_with fail
  refine Calls.mono (HM.out _) ?_
  rintro e W2 ⟨rfl, hb2⟩
  have HB2 : Hid (Below W.heap.size W W2) := HB1.out.trans (hb2.mono HB1.out.size)
  rw [← hb2.cell (p := ⟨W.heap.size, _, none⟩) hlt1] at c0 c1 c2 c3
  have hlt2 : W.heap.size < W2.heap.size := by have := hb2.size; omega
  have HNm := HO.out W2 HB2.out
  have cp := HNm.cell
  have fp := HNm.frz
  have HNm2 : Hid (NmOwn W2 B p v l) := HNm
  have hpne : W2.heap.size ≠ p := Nat.ne_of_gt (World.block_lt_of_cell? W2 _ cp)
  have hne0 : W2.heap.size ≠ W.heap.size := by omega
  have hX0 : Mod [] W2 (W2.drew.alloc (.cells #[.string xn, .string xu, .int .i64 xl, .int .i64 xh] 27)) := (Mod.refl _ _).drew.alloc _
  obtain ⟨v', X, hr, ho, hgr, hat⟩ := Own.append sigC_len sigC_one Try.underlying22 infoSig rfl (by omega) (W2.drew.alloc (.cells #[.string xn, .string xu, .int .i64 xl, .int .i64 xh] 27)) B v l (HNm.own.mod hX0 (by simp)) ⟨xn, xu, xl, xh⟩ W2.heap.size
    (by intro j hj; have : j = 0 ∨ j = 1 ∨ j = 2 ∨ j = 3 := by omega
        rcases this with rfl | rfl | rfl | rfl <;> simp [go_sem, sigC]) (by unfold maxLen; omega) (by omega) (by have := HBB.out; have := HB2.out.size; simp; omega)
  obtain ⟨a9, cap9, hv9, _⟩ := Own.sl sigC_len sig0 ho
  subst hv9
  generalize (l ++ [(⟨xn, xu, xl, xh⟩ : Sig)]).length = n9 at *
  have hm : Mod v.ownBlock.toList W2 X := (hX0.mono (by simp)).trans (Mod.grown hgr)
  have hpn : p ∉ v.ownBlock.toList := by have := HNm.ne; simpa using this
  have hge : ∀ g ∈ v.ownBlock.toList, B ≤ g := fun g hg => (Own.lt HNm.own g (by simpa using hg)).1
  have hbn : W.heap.size ∉ v.ownBlock.toList := by
    intro hg
    have := (Own.lt (HO.out W (Below.refl _ _)).own W.heap.size (by simpa using hg)).2
    omega
  have x0 := hm.cell c0 hbn
  have x1 := hm.cell c1 hbn
  have x2 := hm.cell c2 hbn
  have x3 := hm.cell c3 hbn
  have hlp : p < W2.heap.size := World.block_lt_of_cell? W2 _ cp
  have xp : X.cell? ⟨p, 0, none⟩ = some v := hm.cell cp hpn
  have xf : X.frozen? ⟨p, 0, none⟩ = false := (hm.frozen hlp hpn).trans fp
  have HHR : Hid ((Builtin.append_ #[22, 22] 22 #[v, .slice (some ⟨W2.heap.size, 0, none⟩) 1 1]).run Try.prog (W2.drew.alloc (.cells #[.string xn, .string xu, .int .i64 xl, .int .i64 xh] 27)) = .ok (.slice a9 n9 cap9) X) := hr
  have hv' : (Value.slice a9 n9 cap9).ownBlock ≠ some p := by
    rcases hat with q | q
    · rw [q]; exact HNm.ne
    · rw [q]; simp; omega
  have HF : Hid (Below B W (X.setCell ⟨p, 0, none⟩ (.slice a9 n9 cap9)) ∧ NmOwn (X.setCell ⟨p, 0, none⟩ (.slice a9 n9 cap9)) B p (.slice a9 n9 cap9) (l ++ [⟨xn, xu, xl, xh⟩])) := by
    have hB2 : B ≤ W2.heap.size := by have := HBB.out; have := HB2.out.size; omega
    refine ⟨((HB2.out.mono HBB.out).trans (hm.belowOf hB2 hge)).setCell HNm.base _, ?_, ?_, ?_, HNm.base, hv'⟩
    · exact World.cell?_setCell_same _ _ _ xp
    · simpa using xf
    · exact Own.mod (S := [p]) ho ⟨rfl, rfl, rfl, by simp, fun k hk hs => Below.heap_setCell _ _ _ _ (by simpa using hs)⟩ (fun g hg => by simp; intro e; rw [e] at hg; exact hv' hg)
  clear HNm hb2 hlt1 hr ho hgr hat hm hge hX0 hv' hpn fp
  go_wp2_with fail
  refine wp_region_held_drew (S := fun _ => True) (by kernel_rfl) trivial (fun hHeld => ?_)
  refine wpAnyH_take (i := 0) (oi := { dst := some 18, op := Op.move (Operand.tmp 0), type := 28, pos := "names.go:64", after := #[], guard := none }) (v := ?_) rfl (by kernel_rfl) (by kernel_rfl) (by kernel_rfl) (fun _ _ _ h => h) (Or.inl ⟨by rfl, ?_⟩) hHeld ?_
  rotate_left
  · (intro w hSw; (try dsimp only at hSw); go_simp; all_goals (try with_reducible rfl))
  try simp only [Act.put, List.setIfInBounds_toArray, List.set_cons_zero, List.set_cons_succ]
  refine wpAnyH_take (i := 1) (oi := { dst := some 19, op := Op.move (Operand.tmp 0), type := 28, pos := "names.go:64", after := #[], guard := none }) (v := ?_) rfl (by kernel_rfl) (by kernel_rfl) (by kernel_rfl) (fun _ _ _ h => h) (Or.inl ⟨by rfl, ?_⟩) hHeld ?_
  rotate_left
  · (intro w hSw; (try dsimp only at hSw); go_simp; all_goals (try with_reducible rfl))
  try simp only [Act.put, List.setIfInBounds_toArray, List.set_cons_zero, List.set_cons_succ]
  refine wpAnyH_take (i := 2) (oi := { dst := some 20, op := Op.nilCheck (Operand.tmp 19), type := 0, pos := "names.go:64", after := #[{ on := 1, ground := Ground.data }], guard := none }) (v := ?_) rfl (by kernel_rfl) (by kernel_rfl) (by kernel_rfl) (fun _ _ _ h => h) (Or.inl ⟨by rfl, ?_⟩) hHeld ?_
  rotate_left
  · (intro w hSw; (try dsimp only at hSw); go_simp; all_goals (try with_reducible rfl))
  try simp only [Act.put, List.setIfInBounds_toArray, List.set_cons_zero, List.set_cons_succ]
  refine wpAnyH_take (i := 3) (oi := { dst := some 21, op := Op.fieldAddr 56 (Operand.tmp 20) 0, type := 0, pos := "names.go:64", after := #[{ on := 2, ground := Ground.data }], guard := none }) (v := ?_) rfl (by kernel_rfl) (by kernel_rfl) (by kernel_rfl) (fun _ _ _ h => h) (Or.inl ⟨by rfl, ?_⟩) hHeld ?_
  rotate_left
  · (intro w hSw; (try dsimp only at hSw); go_simp; all_goals (try with_reducible rfl))
  try simp only [Act.put, List.setIfInBounds_toArray, List.set_cons_zero, List.set_cons_succ]
  refine wpAnyH_ready (rs := [4, 5]) (by kernel_rfl) (by simp) ?_
  refine AllReadyH.cons (o := { dst := some 22, op := Op.load 22 (Operand.tmp 21), type := 22, pos := "names.go:64", after := #[{ on := 3, ground := Ground.data }], guard := none }) rfl (fun K hK => ?_) ?_
  · skip
    go_simp
    refine hK.out _ _ trivial (fun hHeld => ?_)
    clear hK K
    try simp only [Act.put, List.setIfInBounds_toArray, List.set_cons_zero, List.set_cons_succ]
    refine wpAnyH_ready (rs := [5]) (by kernel_rfl) (by simp) ?_
    refine AllReadyH.cons (o := { dst := some 23, op := Op.load 27 (Operand.tmp 3), type := 27, pos := "names.go:64", after := #[], guard := none }) rfl (fun K hK => ?_) AllReadyH.nil
    go_simp
    refine hK.out _ _ trivial (fun hHeld => ?_)
    clear hK K
    try simp only [Act.put, List.setIfInBounds_toArray, List.set_cons_zero, List.set_cons_succ]
    refine wpAnyH_ready (rs := [6]) (by kernel_rfl) (by simp) ?_
    refine AllReadyH.cons (o := { dst := some 24, op := Op.buildSlice 22 1 #[(0, Operand.tmp 23)], type := 22, pos := "names.go:64", after := #[{ on := 5, ground := Ground.data }], guard := none }) rfl (fun K hK => ?_) AllReadyH.nil
    go_simp
    refine hK.out _ _ trivial (fun hHeld => ?_)
    clear hK K
    try simp only [Act.put, List.setIfInBounds_toArray, List.set_cons_zero, List.set_cons_succ]
    refine wpAnyH_ready (rs := [7]) (by kernel_rfl) (by simp) ?_
    refine AllReadyH.cons (o := { dst := some 25, op := Op.call { callee := Callee.builtin Builtin.append, args := #[Operand.tmp 22, Operand.tmp 24], argTypes := #[22, 22] }, type := 22, pos := "names.go:64", after := #[{ on := 4, ground := Ground.data }, { on := 6, ground := Ground.data }], guard := none }) rfl (fun K hK => ?_) AllReadyH.nil
    refine append_stepO (by rfl) _ _ (by rfl) (by rfl) _ _ _ _ (by rfl) (by rfl) HHR.out ?_
    refine hK.out _ _ trivial (fun hHeld => ?_)
    clear hK K
    try simp only [Act.put, List.setIfInBounds_toArray, List.set_cons_zero, List.set_cons_succ]
    refine wpAnyH_take (i := 8) (oi := { dst := some 26, op := Op.nilCheck (Operand.tmp 18), type := 0, pos := "names.go:64", after := #[{ on := 0, ground := Ground.data }, { on := 0, ground := Ground.phase }, { on := 1, ground := Ground.phase }, { on := 2, ground := Ground.phase }, { on := 3, ground := Ground.phase }, { on := 4, ground := Ground.phase }, { on := 5, ground := Ground.phase }, { on := 6, ground := Ground.phase }, { on := 7, ground := Ground.phase }], guard := none }) (v := ?_) rfl (by kernel_rfl) (by kernel_rfl) (by kernel_rfl) (fun _ _ _ h => h) (Or.inl ⟨by rfl, ?_⟩) hHeld ?_
    rotate_left
    · (intro w hSw; (try dsimp only at hSw); go_simp; all_goals (try with_reducible rfl))
    try simp only [Act.put, List.setIfInBounds_toArray, List.set_cons_zero, List.set_cons_succ]
    refine wpAnyH_take (i := 9) (oi := { dst := some 27, op := Op.fieldAddr 56 (Operand.tmp 26) 0, type := 0, pos := "names.go:64", after := #[{ on := 8, ground := Ground.data }, { on := 0, ground := Ground.phase }, { on := 1, ground := Ground.phase }, { on := 2, ground := Ground.phase }, { on := 3, ground := Ground.phase }, { on := 4, ground := Ground.phase }, { on := 5, ground := Ground.phase }, { on := 6, ground := Ground.phase }, { on := 7, ground := Ground.phase }], guard := none }) (v := ?_) rfl (by kernel_rfl) (by kernel_rfl) (by kernel_rfl) (fun _ _ _ h => h) (Or.inl ⟨by rfl, ?_⟩) hHeld ?_
    rotate_left
    · (intro w hSw; (try dsimp only at hSw); go_simp; all_goals (try with_reducible rfl))
    try simp only [Act.put, List.setIfInBounds_toArray, List.set_cons_zero, List.set_cons_succ]
    refine wpAnyH_ready (rs := [10]) (by kernel_rfl) (by simp) ?_
    refine AllReadyH.cons (o := { dst := none, op := Op.store 22 (Operand.tmp 27) (Operand.tmp 25), type := 0, pos := "names.go:64", after := #[{ on := 9, ground := Ground.data }, { on := 7, ground := Ground.data }, { on := 7, ground := Ground.chain }, { on := 0, ground := Ground.phase }, { on := 1, ground := Ground.phase }, { on := 2, ground := Ground.phase }, { on := 3, ground := Ground.phase }, { on := 4, ground := Ground.phase }, { on := 5, ground := Ground.phase }, { on := 6, ground := Ground.phase }, { on := 7, ground := Ground.phase }], guard := none }) rfl (fun K hK => ?_) AllReadyH.nil
    go_simp
    refine hK.out _ _ trivial (fun hHeld => ?_)
    clear hK K
    try simp only [Act.put]
    refine wpAnyH_done (by kernel_rfl) ?_ _
    go_wp2
    go_ret
    exact ⟨rfl, HF.out.1, _, HF.out.2⟩
  refine AllReadyH.cons (o := { dst := some 23, op := Op.load 27 (Operand.tmp 3), type := 27, pos := "names.go:64", after := #[], guard := none }) rfl (fun K hK => ?_) AllReadyH.nil
  go_simp
  refine hK.out _ _ trivial (fun hHeld => ?_)
  clear hK K
  try simp only [Act.put, List.setIfInBounds_toArray, List.set_cons_zero, List.set_cons_succ]
  refine wpAnyH_ready (rs := [4, 6]) (by kernel_rfl) (by simp) ?_
  refine AllReadyH.cons (o := { dst := some 22, op := Op.load 22 (Operand.tmp 21), type := 22, pos := "names.go:64", after := #[{ on := 3, ground := Ground.data }], guard := none }) rfl (fun K hK => ?_) ?_
  · skip
    go_simp
    refine hK.out _ _ trivial (fun hHeld => ?_)
    clear hK K
    try simp only [Act.put, List.setIfInBounds_toArray, List.set_cons_zero, List.set_cons_succ]
    refine wpAnyH_ready (rs := [6]) (by kernel_rfl) (by simp) ?_
    refine AllReadyH.cons (o := { dst := some 24, op := Op.buildSlice 22 1 #[(0, Operand.tmp 23)], type := 22, pos := "names.go:64", after := #[{ on := 5, ground := Ground.data }], guard := none }) rfl (fun K hK => ?_) AllReadyH.nil
    go_simp
    refine hK.out _ _ trivial (fun hHeld => ?_)
    clear hK K
    try simp only [Act.put, List.setIfInBounds_toArray, List.set_cons_zero, List.set_cons_succ]
    refine wpAnyH_ready (rs := [7]) (by kernel_rfl) (by simp) ?_
    refine AllReadyH.cons (o := { dst := some 25, op := Op.call { callee := Callee.builtin Builtin.append, args := #[Operand.tmp 22, Operand.tmp 24], argTypes := #[22, 22] }, type := 22, pos := "names.go:64", after := #[{ on := 4, ground := Ground.data }, { on := 6, ground := Ground.data }], guard := none }) rfl (fun K hK => ?_) AllReadyH.nil
    refine append_stepO (by rfl) _ _ (by rfl) (by rfl) _ _ _ _ (by rfl) (by rfl) HHR.out ?_
    refine hK.out _ _ trivial (fun hHeld => ?_)
    clear hK K
    try simp only [Act.put, List.setIfInBounds_toArray, List.set_cons_zero, List.set_cons_succ]
    refine wpAnyH_take (i := 8) (oi := { dst := some 26, op := Op.nilCheck (Operand.tmp 18), type := 0, pos := "names.go:64", after := #[{ on := 0, ground := Ground.data }, { on := 0, ground := Ground.phase }, { on := 1, ground := Ground.phase }, { on := 2, ground := Ground.phase }, { on := 3, ground := Ground.phase }, { on := 4, ground := Ground.phase }, { on := 5, ground := Ground.phase }, { on := 6, ground := Ground.phase }, { on := 7, ground := Ground.phase }], guard := none }) (v := ?_) rfl (by kernel_rfl) (by kernel_rfl) (by kernel_rfl) (fun _ _ _ h => h) (Or.inl ⟨by rfl, ?_⟩) hHeld ?_
    rotate_left
    · (intro w hSw; (try dsimp only at hSw); go_simp; all_goals (try with_reducible rfl))
    try simp only [Act.put, List.setIfInBounds_toArray, List.set_cons_zero, List.set_cons_succ]
    refine wpAnyH_take (i := 9) (oi := { dst := some 27, op := Op.fieldAddr 56 (Operand.tmp 26) 0, type := 0, pos := "names.go:64", after := #[{ on := 8, ground := Ground.data }, { on := 0, ground := Ground.phase }, { on := 1, ground := Ground.phase }, { on := 2, ground := Ground.phase }, { on := 3, ground := Ground.phase }, { on := 4, ground := Ground.phase }, { on := 5, ground := Ground.phase }, { on := 6, ground := Ground.phase }, { on := 7, ground := Ground.phase }], guard := none }) (v := ?_) rfl (by kernel_rfl) (by kernel_rfl) (by kernel_rfl) (fun _ _ _ h => h) (Or.inl ⟨by rfl, ?_⟩) hHeld ?_
    rotate_left
    · (intro w hSw; (try dsimp only at hSw); go_simp; all_goals (try with_reducible rfl))
    try simp only [Act.put, List.setIfInBounds_toArray, List.set_cons_zero, List.set_cons_succ]
    refine wpAnyH_ready (rs := [10]) (by kernel_rfl) (by simp) ?_
    refine AllReadyH.cons (o := { dst := none, op := Op.store 22 (Operand.tmp 27) (Operand.tmp 25), type := 0, pos := "names.go:64", after := #[{ on := 9, ground := Ground.data }, { on := 7, ground := Ground.data }, { on := 7, ground := Ground.chain }, { on := 0, ground := Ground.phase }, { on := 1, ground := Ground.phase }, { on := 2, ground := Ground.phase }, { on := 3, ground := Ground.phase }, { on := 4, ground := Ground.phase }, { on := 5, ground := Ground.phase }, { on := 6, ground := Ground.phase }, { on := 7, ground := Ground.phase }], guard := none }) rfl (fun K hK => ?_) AllReadyH.nil
    go_simp
    refine hK.out _ _ trivial (fun hHeld => ?_)
    clear hK K
    try simp only [Act.put]
    refine wpAnyH_done (by kernel_rfl) ?_ _
    go_wp2
    go_ret
    exact ⟨rfl, HF.out.1, _, HF.out.2⟩
  refine AllReadyH.cons (o := { dst := some 24, op := Op.buildSlice 22 1 #[(0, Operand.tmp 23)], type := 22, pos := "names.go:64", after := #[{ on := 5, ground := Ground.data }], guard := none }) rfl (fun K hK => ?_) AllReadyH.nil
  go_simp
  refine hK.out _ _ trivial (fun hHeld => ?_)
  clear hK K
  try simp only [Act.put, List.setIfInBounds_toArray, List.set_cons_zero, List.set_cons_succ]
  refine wpAnyH_ready (rs := [4]) (by kernel_rfl) (by simp) ?_
  refine AllReadyH.cons (o := { dst := some 22, op := Op.load 22 (Operand.tmp 21), type := 22, pos := "names.go:64", after := #[{ on := 3, ground := Ground.data }], guard := none }) rfl (fun K hK => ?_) AllReadyH.nil
  go_simp
  refine hK.out _ _ trivial (fun hHeld => ?_)
  clear hK K
  try simp only [Act.put, List.setIfInBounds_toArray, List.set_cons_zero, List.set_cons_succ]
  refine wpAnyH_ready (rs := [7]) (by kernel_rfl) (by simp) ?_
  refine AllReadyH.cons (o := { dst := some 25, op := Op.call { callee := Callee.builtin Builtin.append, args := #[Operand.tmp 22, Operand.tmp 24], argTypes := #[22, 22] }, type := 22, pos := "names.go:64", after := #[{ on := 4, ground := Ground.data }, { on := 6, ground := Ground.data }], guard := none }) rfl (fun K hK => ?_) AllReadyH.nil
  refine append_stepO (by rfl) _ _ (by rfl) (by rfl) _ _ _ _ (by rfl) (by rfl) HHR.out ?_
  refine hK.out _ _ trivial (fun hHeld => ?_)
  clear hK K
  try simp only [Act.put, List.setIfInBounds_toArray, List.set_cons_zero, List.set_cons_succ]
  refine wpAnyH_take (i := 8) (oi := { dst := some 26, op := Op.nilCheck (Operand.tmp 18), type := 0, pos := "names.go:64", after := #[{ on := 0, ground := Ground.data }, { on := 0, ground := Ground.phase }, { on := 1, ground := Ground.phase }, { on := 2, ground := Ground.phase }, { on := 3, ground := Ground.phase }, { on := 4, ground := Ground.phase }, { on := 5, ground := Ground.phase }, { on := 6, ground := Ground.phase }, { on := 7, ground := Ground.phase }], guard := none }) (v := ?_) rfl (by kernel_rfl) (by kernel_rfl) (by kernel_rfl) (fun _ _ _ h => h) (Or.inl ⟨by rfl, ?_⟩) hHeld ?_
  rotate_left
  · (intro w hSw; (try dsimp only at hSw); go_simp; all_goals (try with_reducible rfl))
  try simp only [Act.put, List.setIfInBounds_toArray, List.set_cons_zero, List.set_cons_succ]
  refine wpAnyH_take (i := 9) (oi := { dst := some 27, op := Op.fieldAddr 56 (Operand.tmp 26) 0, type := 0, pos := "names.go:64", after := #[{ on := 8, ground := Ground.data }, { on := 0, ground := Ground.phase }, { on := 1, ground := Ground.phase }, { on := 2, ground := Ground.phase }, { on := 3, ground := Ground.phase }, { on := 4, ground := Ground.phase }, { on := 5, ground := Ground.phase }, { on := 6, ground := Ground.phase }, { on := 7, ground := Ground.phase }], guard := none }) (v := ?_) rfl (by kernel_rfl) (by kernel_rfl) (by kernel_rfl) (fun _ _ _ h => h) (Or.inl ⟨by rfl, ?_⟩) hHeld ?_
  rotate_left
  · (intro w hSw; (try dsimp only at hSw); go_simp; all_goals (try with_reducible rfl))
  try simp only [Act.put, List.setIfInBounds_toArray, List.set_cons_zero, List.set_cons_succ]
  refine wpAnyH_ready (rs := [10]) (by kernel_rfl) (by simp) ?_
  refine AllReadyH.cons (o := { dst := none, op := Op.store 22 (Operand.tmp 27) (Operand.tmp 25), type := 0, pos := "names.go:64", after := #[{ on := 9, ground := Ground.data }, { on := 7, ground := Ground.data }, { on := 7, ground := Ground.chain }, { on := 0, ground := Ground.phase }, { on := 1, ground := Ground.phase }, { on := 2, ground := Ground.phase }, { on := 3, ground := Ground.phase }, { on := 4, ground := Ground.phase }, { on := 5, ground := Ground.phase }, { on := 6, ground := Ground.phase }, { on := 7, ground := Ground.phase }], guard := none }) rfl (fun K hK => ?_) AllReadyH.nil
  go_simp
  refine hK.out _ _ trivial (fun hHeld => ?_)
  clear hK K
  try simp only [Act.put]
  refine wpAnyH_done (by kernel_rfl) ?_ _
  go_wp2
  go_ret
  exact ⟨rfl, HF.out.1, _, HF.out.2⟩
end Go.Proofs.Ytjnnjjajlafchaa

namespace Go.Proofs.Ytjnnjjajlafchaa
open Go.RowKit
set_option linter.unusedVariables false
set_option maxRecDepth 100000

/-- A term. -/
structure Tm where
  name : ByteArray
  times : Int
def tm0 : Tm := ⟨⟨#[]⟩, 0⟩
/-- A part of a formula. -/
structure Nd where
  op : Int
  n : Int
  fr : Int
  to : Int
  terms : List Tm
  num : Int
def nd0 : Nd := ⟨0, 0, 0, 0, [], 0⟩
def TermRow (w : World) (a : Option Addr) (l : List Tm) : Prop := ∀ i, i < l.length → ∃ b off, a = some ⟨b, off, none⟩ ∧ w.cell? ⟨b, off + i * 2, none⟩ = some (.string (l.getD i tm0).name) ∧ w.cell? ⟨b, off + i * 2 + 1, none⟩ = some (.int .i64 (l.getD i tm0).times)
theorem cell_up {w w' : World} (k : Below w.heap.size w w') {b o : Nat} {v : Value} (hv : w.cell? ⟨b, o, none⟩ = some v) : w'.cell? ⟨b, o, none⟩ = some v := by
  rw [k.cell (p := ⟨b, o, none⟩) (World.block_lt_of_cell? w ⟨b, o, none⟩ hv)]; exact hv
theorem TermRow.below {w w' : World} {a : Option Addr} {l : List Tm} (h : TermRow w a l) (k : Below w.heap.size w w') : TermRow w' a l := by
  intro i hi
  obtain ⟨b, off, e, h0, h1⟩ := h i hi
  exact ⟨b, off, e, cell_up k h0, cell_up k h1⟩
def NodeAt (w : World) (b off : Nat) (x : Nd) : Prop := w.cell? ⟨b, off, none⟩ = some (.int .i64 x.op) ∧ w.cell? ⟨b, off + 1, none⟩ = some (.int .i64 x.n) ∧ w.cell? ⟨b, off + 2, none⟩ = some (.int .i64 x.fr) ∧ w.cell? ⟨b, off + 3, none⟩ = some (.int .i64 x.to) ∧
  (∃ ta tc, w.cell? ⟨b, off + 4, none⟩ = some (.slice ta x.terms.length tc) ∧ TermRow w ta x.terms) ∧ w.cell? ⟨b, off + 5, none⟩ = some (.int .i64 x.num)
theorem NodeAt.below {w w' : World} {b off : Nat} {x : Nd} (h : NodeAt w b off x) (k : Below w.heap.size w w') : NodeAt w' b off x := by
  obtain ⟨h0, h1, h2, h3, ⟨ta, tc, h4, ht⟩, h5⟩ := h
  exact ⟨cell_up k h0, cell_up k h1, cell_up k h2, cell_up k h3, ⟨ta, tc, cell_up k h4, ht.below k⟩, cell_up k h5⟩
def NodeRow (w : World) (a : Option Addr) (l : List Nd) : Prop := ∀ i, i < l.length → ∃ b off, a = some ⟨b, off, none⟩ ∧ NodeAt w b (off + i * 6) (l.getD i nd0)
theorem NodeRow.below {w w' : World} {a : Option Addr} {l : List Nd} (h : NodeRow w a l) (k : Below w.heap.size w w') : NodeRow w' a l := by
  intro i hi
  obtain ⟨b, off, e, h0⟩ := h i hi
  exact ⟨b, off, e, h0.below k⟩
theorem NodeRow.drop {w : World} {b off : Nat} {l : List Nd} (h : NodeRow w (some ⟨b, off, none⟩) l) (k : Nat) : NodeRow w (some ⟨b, off + k * 6, none⟩) (l.drop k) := by
  intro i hi
  rw [List.length_drop] at hi
  obtain ⟨b', off', e, hc⟩ := h (k + i) (by omega)
  cases e
  refine ⟨b, off + k * 6, rfl, ?_⟩
  have e1 : off + k * 6 + i * 6 = off + (k + i) * 6 := by omega
  have e2 : (l.drop k).getD i nd0 = l.getD (k + i) nd0 := by rw [List.getD_eq_getElem?_getD, List.getD_eq_getElem?_getD, List.getElem?_drop]
  rw [e1, e2]; exact hc

def reservedL : List ByteArray := [⟨#[115, 112, 101, 99]⟩, ⟨#[99, 101, 108, 108, 115]⟩, ⟨#[115, 116, 101, 112, 115]⟩, ⟨#[115, 105, 103, 110, 97, 108]⟩, ⟨#[112, 114, 111, 112]⟩, ⟨#[116, 114, 117, 101]⟩, ⟨#[102, 97, 108, 115, 101]⟩, ⟨#[97, 110, 100]⟩, ⟨#[111, 114]⟩, ⟨#[110, 111, 116]⟩, ⟨#[112, 114, 101, 118]⟩, ⟨#[111, 110, 99, 101]⟩, ⟨#[104, 105, 115, 116]⟩, ⟨#[115, 105, 110, 99, 101]⟩, ⟨#[105, 110, 102]⟩]
def isResB (s : ByteArray) : Bool := reservedL.any fun r => eqS s r
theorem isResB_mem {s : ByteArray} (h : isResB s = true) : s ∈ reservedL := by
  unfold isResB at h
  rw [List.any_eq_true] at h
  obtain ⟨r, hr, he⟩ := h
  rw [(eqS_iff s r).1 he]; exact hr
theorem isResB_not {s r : ByteArray} (h : isResB s = false) (hr : r ∈ reservedL) : eqS s r = false := by
  unfold isResB at h
  rw [List.any_eq_false] at h
  cases q : eqS s r with
  | false => rfl
  | true => exact absurd q (h r hr)
set_option maxHeartbeats 2000000 in
theorem isReserved_yes (s : ByteArray) (w : World) (h : isResB s = true) :
    Calls Try.prog 94 #[.string s] w fun e w' => e = .returned (.bool true) ∧ w' = w := by
  have hm := isResB_mem h
  clear h
  simp only [reservedL, List.mem_cons, List.not_mem_nil, or_false] at hm
  rcases hm with rfl | rfl | rfl | rfl | rfl | rfl | rfl | rfl | rfl | rfl | rfl | rfl | rfl | rfl | rfl
  all_goals
    go_enter Try.func94, Try.ntmps94
    go_wp2
    go_ret
    exact ⟨rfl, rfl⟩
theorem eqS_lit {s : ByteArray} {l : List UInt8} (h : eqS s ⟨l.toArray⟩ = false) : (s.toList == l) = false := by
  unfold eqS at h
  rw [bytes_toList ⟨l.toArray⟩] at h
  exact h
set_option maxHeartbeats 2000000 in
theorem isReserved_no (s : ByteArray) (w : World) (h : isResB s = false) :
    Calls Try.prog 94 #[.string s] w fun e w' => e = .returned (.bool false) ∧ w' = w := by
  have h0 : (s.toList == [115, 112, 101, 99]) = false := eqS_lit (isResB_not h (r := ⟨#[115, 112, 101, 99]⟩) (by simp [reservedL]))
  have h1 : (s.toList == [99, 101, 108, 108, 115]) = false := eqS_lit (isResB_not h (r := ⟨#[99, 101, 108, 108, 115]⟩) (by simp [reservedL]))
  have h2 : (s.toList == [115, 116, 101, 112, 115]) = false := eqS_lit (isResB_not h (r := ⟨#[115, 116, 101, 112, 115]⟩) (by simp [reservedL]))
  have h3 : (s.toList == [115, 105, 103, 110, 97, 108]) = false := eqS_lit (isResB_not h (r := ⟨#[115, 105, 103, 110, 97, 108]⟩) (by simp [reservedL]))
  have h4 : (s.toList == [112, 114, 111, 112]) = false := eqS_lit (isResB_not h (r := ⟨#[112, 114, 111, 112]⟩) (by simp [reservedL]))
  have h5 : (s.toList == [116, 114, 117, 101]) = false := eqS_lit (isResB_not h (r := ⟨#[116, 114, 117, 101]⟩) (by simp [reservedL]))
  have h6 : (s.toList == [102, 97, 108, 115, 101]) = false := eqS_lit (isResB_not h (r := ⟨#[102, 97, 108, 115, 101]⟩) (by simp [reservedL]))
  have h7 : (s.toList == [97, 110, 100]) = false := eqS_lit (isResB_not h (r := ⟨#[97, 110, 100]⟩) (by simp [reservedL]))
  have h8 : (s.toList == [111, 114]) = false := eqS_lit (isResB_not h (r := ⟨#[111, 114]⟩) (by simp [reservedL]))
  have h9 : (s.toList == [110, 111, 116]) = false := eqS_lit (isResB_not h (r := ⟨#[110, 111, 116]⟩) (by simp [reservedL]))
  have h10 : (s.toList == [112, 114, 101, 118]) = false := eqS_lit (isResB_not h (r := ⟨#[112, 114, 101, 118]⟩) (by simp [reservedL]))
  have h11 : (s.toList == [111, 110, 99, 101]) = false := eqS_lit (isResB_not h (r := ⟨#[111, 110, 99, 101]⟩) (by simp [reservedL]))
  have h12 : (s.toList == [104, 105, 115, 116]) = false := eqS_lit (isResB_not h (r := ⟨#[104, 105, 115, 116]⟩) (by simp [reservedL]))
  have h13 : (s.toList == [115, 105, 110, 99, 101]) = false := eqS_lit (isResB_not h (r := ⟨#[115, 105, 110, 99, 101]⟩) (by simp [reservedL]))
  have h14 : (s.toList == [105, 110, 102]) = false := eqS_lit (isResB_not h (r := ⟨#[105, 110, 102]⟩) (by simp [reservedL]))
  clear h
  go_enter Try.func94, Try.ntmps94
  go_wp2
  go_ret
  exact ⟨rfl, rfl⟩
def isNameT (s : ByteArray) : Bool := isNameB s && !isResB s
set_option maxHeartbeats 400000 in
theorem isNameT_any (s : ByteArray) (w : World) (hs : s.size ≤ 9223372036854775807) :
    Calls Try.prog 89 #[.string s] w fun e w' => e = .returned (.bool (isNameT s)) ∧ w' = w := by
  have HN := isNameB_any s w hs
  unfold isNameT
  cases h1 : isNameB s with
  | false =>
    rw [h1] at HN
    clear h1
    go_enter Try.func89, Try.ntmps89
    go_wp2_with (go_at_call 39; refine HN.mono ?_; rintro e w' ⟨rfl, rfl⟩)
    go_ret
    exact ⟨rfl, rfl⟩
  | true =>
    rw [h1] at HN
    clear h1
    cases h2 : isResB s with
    | true =>
      have HM := isReserved_yes s w h2
      clear h2
      go_enter Try.func89, Try.ntmps89
      go_wp2_with (first | (go_at_call 39; refine HN.mono ?_; rintro e w' ⟨rfl, hw9⟩; subst w') | (go_at_call 94; refine HM.mono ?_; rintro e w' ⟨rfl, hw9⟩; subst w'))
      go_ret
      exact ⟨rfl, rfl⟩
    | false =>
      have HM := isReserved_no s w h2
      clear h2
      go_enter Try.func89, Try.ntmps89
      go_wp2_with (first | (go_at_call 39; refine HN.mono ?_; rintro e w' ⟨rfl, hw9⟩; subst w') | (go_at_call 94; refine HM.mono ?_; rintro e w' ⟨rfl, hw9⟩; subst w'))
      go_ret
      exact ⟨rfl, rfl⟩
def isNumB (x : Int) : Bool := x != -9223372036854775808
theorem isNum_any (x : Int) (w : World) : Calls Try.prog 90 #[.int .i64 x] w fun e w' => e = .returned (.bool (isNumB x)) ∧ w' = w := by
  have HE : Hid (isNumB x = (x != -9223372036854775808)) := rfl
  go_enter Try.func90, Try.ntmps90
  go_wp2
  go_ret
  exact ⟨ret_bool HE.out.symm, rfl⟩
def isIntB (x : Int) : Bool := decide (0 ≤ x) && decide (x ≤ 2147483647)
theorem isInt_any (x : Int) (w : World) : Calls Try.prog 88 #[.int .i64 x] w fun e w' => e = .returned (.bool (isIntB x)) ∧ w' = w := by
  by_cases h1 : 0 ≤ x <;> by_cases h2 : x ≤ 2147483647
  all_goals
    have HE : Hid (isIntB x = (decide (0 ≤ x) && decide (x ≤ 2147483647))) := rfl
    go_enter Try.func88, Try.ntmps88
    go_wp2
    go_ret
    exact ⟨ret_bool (by rw [HE.out]; simp [h1, h2]), rfl⟩
end Go.Proofs.Ytjnnjjajlafchaa

namespace Go.Proofs.Ytjnnjjajlafchaa
open Go.RowKit
set_option linter.unusedVariables false
set_option maxRecDepth 100000

def fitsNB (op n : Int) : Bool :=
  if op = 0 ∨ op = 1 ∨ op = 2 then n == 0 else if op = 3 ∨ op = 7 ∨ op = 8 ∨ op = 9 then n == 1 else if op = 6 ∨ op = 10 then n == 2 else if op = 4 ∨ op = 5 then decide (2 ≤ n) else false
set_option maxHeartbeats 2000000 in
theorem fitsN_any (op n fr to num : Int) (tl tc : Nat) (ta : Option Addr) (w : World) :
    Calls Try.prog 80 #[.agg #[.int .i64 op, .int .i64 n, .int .i64 fr, .int .i64 to, .slice ta tl tc, .int .i64 num]] w fun e w' => e = .returned (.bool (fitsNB op n)) ∧ Below w.heap.size w w' := by
  by_cases h : op = 0 ∨ op = 1 ∨ op = 2 ∨ op = 3 ∨ op = 7 ∨ op = 8 ∨ op = 9 ∨ op = 6 ∨ op = 10 ∨ op = 4 ∨ op = 5
  · rcases h with rfl | rfl | rfl | rfl | rfl | rfl | rfl | rfl | rfl | rfl | rfl
    all_goals
      go_enter Try.func80, Try.ntmps80
      go_wp2
      go_ret
      exact ⟨ret_bool (by simp [fitsNB]), (Below.refl _ _).alloc (Nat.le_refl _) _⟩
  · have HE : Hid (fitsNB op n = false) := by
      show _ = _
      unfold fitsNB
      rw [if_neg (by omega), if_neg (by omega), if_neg (by omega), if_neg (by omega)]
    have k0 : (op == 0) = false := by simp; omega
    have k1 : (op == 1) = false := by simp; omega
    have k2 : (op == 2) = false := by simp; omega
    have k3 : (op == 3) = false := by simp; omega
    have k4 : (op == 4) = false := by simp; omega
    have k5 : (op == 5) = false := by simp; omega
    have k6 : (op == 6) = false := by simp; omega
    have k7 : (op == 7) = false := by simp; omega
    have k8 : (op == 8) = false := by simp; omega
    have k9 : (op == 9) = false := by simp; omega
    have k10 : (op == 10) = false := by simp; omega
    clear h
    go_enter Try.func80, Try.ntmps80
    go_wp2
    go_ret
    exact ⟨ret_bool HE.out.symm, (Below.refl _ _).alloc (Nat.le_refl _) _⟩
def fitsIB (op fr to : Int) : Bool := if op = 8 ∨ op = 9 ∨ op = 10 then isIntB fr && (isIntB to || to == -1) else fr == 0 && to == 0
set_option maxHeartbeats 2000000 in
theorem fitsI_any (op n fr to num : Int) (tl tc : Nat) (ta : Option Addr) (w : World) :
    Calls Try.prog 81 #[.agg #[.int .i64 op, .int .i64 n, .int .i64 fr, .int .i64 to, .slice ta tl tc, .int .i64 num]] w fun e w' => e = .returned (.bool (fitsIB op fr to)) ∧ Below w.heap.size w w' := by
  have HI : Hid (∀ x X, Calls Try.prog 88 #[.int .i64 x] X fun e w' => e = .returned (.bool (isIntB x)) ∧ w' = X) := isInt_any
  by_cases h : op = 8 ∨ op = 9 ∨ op = 10
  · have HE : Hid (fitsIB op fr to = (isIntB fr && (isIntB to || to == -1))) := by simp only [Hid, fitsIB]; rw [if_pos h]
    cases b1 : isIntB fr <;> cases b2 : isIntB to
    all_goals
      rw [b1, b2] at HE
      rcases h with rfl | rfl | rfl
      all_goals
        go_enter Try.func81, Try.ntmps81
        go_wp2_with (go_at_call 88; refine (HI.out _ _).mono ?_; rintro e w' ⟨rfl, hw9⟩; subst w')
        go_ret
        exact ⟨ret_bool (by rw [HE.out]; simp), (Below.refl _ _).alloc (Nat.le_refl _) _⟩
  · have HE : Hid (fitsIB op fr to = (fr == 0 && to == 0)) := by simp only [Hid, fitsIB]; rw [if_neg h]
    have k8 : (op == 8) = false := by simp; omega
    have k9 : (op == 9) = false := by simp; omega
    have k10 : (op == 10) = false := by simp; omega
    clear h
    cases b1 : (fr == 0)
    all_goals
      go_enter Try.func81, Try.ntmps81
      go_wp2
      go_ret
      exact ⟨ret_bool (by rw [HE.out]; simp [b1]), (Below.refl _ _).alloc (Nat.le_refl _) _⟩
end Go.Proofs.Ytjnnjjajlafchaa

namespace Go.Proofs.Ytjnnjjajlafchaa
open Go.RowKit
set_option linter.unusedVariables false
set_option maxRecDepth 100000

def NamesFit (l : List Tm) : Prop := ∀ t ∈ l, t.name.size ≤ 9223372036854775807
theorem NamesFit.get {l : List Tm} (h : NamesFit l) (k : Nat) (hk : k < l.length) : (l.getD k tm0).name.size ≤ 9223372036854775807 :=
  h _ (by rw [List.getD_eq_getElem?_getD, List.getElem?_eq_getElem hk]; exact List.getElem_mem hk)
def termB (t : Tm) : Bool := isNameT t.name && isNumB t.times
def fitsAB (x : Nd) : Bool := if x.op = 2 then decide (1 ≤ x.terms.length) && decide (x.terms.length ≤ 16) && x.terms.all termB && isNumB x.num else x.terms.length == 0 && x.num == 0
theorem all_take (l : List Tm) (k : Nat) (hk : k < l.length) : (l.take (k + 1)).all termB = ((l.take k).all termB && termB (l.getD k tm0)) := by
  rw [List.take_succ_eq_append_getElem hk, List.all_append]
  simp [List.getD_eq_getElem?_getD, hk]
theorem all_bad (l : List Tm) (k : Nat) (hk : k < l.length) (h : termB (l.getD k tm0) = false) : l.all termB = false := by
  rw [List.all_eq_false]
  refine ⟨l[k], List.getElem_mem hk, ?_⟩
  simpa [List.getD_eq_getElem?_getD, hk] using h
set_option maxHeartbeats 2000000 in
theorem fitsA_any (x : Nd) (ta : Option Addr) (tc : Nat) (w : World) (h : TermRow w ta x.terms) (hf : NamesFit x.terms) (hl : x.terms.length ≤ 9223372036854775807) :
    Calls Try.prog 82 #[.agg #[.int .i64 x.op, .int .i64 x.n, .int .i64 x.fr, .int .i64 x.to, .slice ta x.terms.length tc, .int .i64 x.num]] w fun e w' => e = .returned (.bool (fitsAB x)) ∧ Below w.heap.size w w' := by
  obtain ⟨op, n, fr, to, ts, num⟩ := x
  simp only at h hf hl
  have HB0 : Hid (Below w.heap.size w (w.alloc (.cells #[.int .i64 op, .int .i64 n, .int .i64 fr, .int .i64 to, .slice ta ts.length tc, .int .i64 num] 67))) := (Below.refl _ _).alloc (Nat.le_refl _) _
  by_cases h2 : op = 2
  · subst h2
    have HE : Hid (fitsAB ⟨2, n, fr, to, ts, num⟩ = (decide (1 ≤ ts.length) && decide (ts.length ≤ 16) && ts.all termB && isNumB num)) := by simp [Hid, fitsAB]
    by_cases c1 : 1 ≤ ts.length
    · by_cases c2 : ts.length ≤ 16
      · have HE2 : Hid (fitsAB ⟨2, n, fr, to, ts, num⟩ = (ts.all termB && isNumB num)) := by show _ = _; rw [HE.out]; simp [c1, c2]
        have HR : Hid (TermRow w ta ts) := h
        have HF : Hid (NamesFit ts) := hf
        clear h hf HE
        have c3 : ¬ ((ts.length : Int) < 1) := by omega
        have c4 : ¬ ((16 : Int) < (ts.length : Int)) := by omega
        go_enter Try.func82, Try.ntmps82
        go_wp2
        go_loopw [30] (fun i wr => ∃ k : Nat, k ≤ ts.length ∧ i = .int .i64 k ∧ Below w.heap.size w wr ∧ (∀ j, wr.cell? ⟨w.heap.size, j, none⟩ = (w.alloc (.cells #[.int .i64 2, .int .i64 n, .int .i64 fr, .int .i64 to, .slice ta ts.length tc, .int .i64 num] 67)).cell? ⟨w.heap.size, j, none⟩) ∧ w.heap.size < wr.heap.size ∧ (ts.take k).all termB = true) (fun i _ => ts.length - (intOf i).toNat)
        case atStart => exact ⟨0, Nat.zero_le _, rfl, HB0.out, fun j => rfl, by simp, rfl⟩
        case round =>
          obtain ⟨k, hk, rfl, hb, hc, hlt0, ha⟩ := hrel
          have HB : Hid (Below w.heap.size w wr) := hb
          have HC : Hid (∀ j, wr.cell? ⟨w.heap.size, j, none⟩ = (w.alloc (.cells #[.int .i64 2, .int .i64 n, .int .i64 fr, .int .i64 to, .slice ta ts.length tc, .int .i64 num] 67)).cell? ⟨w.heap.size, j, none⟩) := hc
          have HA : Hid ((ts.take k).all termB = true) := ha
          clear hb hc ha
          by_cases hlt : k < ts.length
          · obtain ⟨b, off, rfl, h0, h1⟩ := HR.out.below HB.out k hlt
            have hsz := HF.out.get k hlt
            have HT : Hid ((ts.take (k + 1)).all termB = ((ts.take k).all termB && termB (ts.getD k tm0))) := all_take ts k hlt
            have HTB : Hid (termB (ts.getD k tm0) = false → ts.all termB = false) := all_bad ts k hlt
            generalize ts.getD k tm0 = t at *
            obtain ⟨tn, tt⟩ := t
            simp only at h0 h1 hsz
            have HN : Hid (∀ X, Calls Try.prog 89 #[.string tn] X fun e w' => e = .returned (.bool (isNameT tn)) ∧ w' = X) := fun X => isNameT_any tn X hsz
            have HM : Hid (∀ X, Calls Try.prog 90 #[.int .i64 tt] X fun e w' => e = .returned (.bool (isNumB tt)) ∧ w' = X) := fun X => isNum_any tt X
            have HX : Hid (termB ⟨tn, tt⟩ = (isNameT tn && isNumB tt)) := rfl
            have HB2 : Hid (Below w.heap.size w (wr.alloc (.cells #[.string tn, .int .i64 tt] 74))) := HB.out.alloc HB.out.size _
            clear hsz
            cases b1 : isNameT tn with
            | false =>
              rw [b1] at HN HX
              clear b1
              go_wp2_with (go_at_call 89; refine (HN.out _).mono ?_; rintro e w' ⟨rfl, hw9⟩; subst w')
              go_ret
              exact ⟨ret_bool (by rw [HE2.out, HTB.out (by rw [HX.out]; rfl)]; rfl), HB2.out⟩
            | true =>
              rw [b1] at HN HX
              clear b1
              cases b2 : isNumB tt with
              | false =>
                rw [b2] at HM HX
                clear b2
                go_wp2_with (first | (go_at_call 89; refine (HN.out _).mono ?_; rintro e w' ⟨rfl, hw9⟩; subst w') | (go_at_call 90; refine (HM.out _).mono ?_; rintro e w' ⟨rfl, hw9⟩; subst w'))
                go_ret
                exact ⟨ret_bool (by rw [HE2.out, HTB.out (by rw [HX.out]; rfl)]; rfl), HB2.out⟩
              | true =>
                rw [b2] at HM HX
                clear b2
                go_wp2_with (first | (go_at_call 89; refine (HN.out _).mono ?_; rintro e w' ⟨rfl, hw9⟩; subst w') | (go_at_call 90; refine (HM.out _).mono ?_; rintro e w' ⟨rfl, hw9⟩; subst w'))
                go_roundw
                case rel => exact ⟨k + 1, by omega, by go_num, HB2.out, fun j => by rw [cell_alloc_lt _ _ _ _ hlt0]; exact HC.out j, by simp; omega, by rw [HT.out, HA.out, HX.out]; rfl⟩
                case measure => simp [intOf]; omega
          · have hkk : k = ts.length := by omega
            have HZ : Hid (ts.all termB = true) := by have := HA.out; rw [hkk, List.take_length] at this; exact this
            have e5 : wr.cell? ⟨w.heap.size, 5, none⟩ = some (.int .i64 num) := by rw [HC.out 5]; simp [go_sem]
            have HM : Hid (∀ X, Calls Try.prog 90 #[.int .i64 num] X fun e w' => e = .returned (.bool (isNumB num)) ∧ w' = X) := fun X => isNum_any num X
            clear hkk
            go_wp2_with (go_at_call 90; refine (HM.out _).mono ?_; rintro e w' ⟨rfl, hw9⟩; subst w')
            go_ret
            exact ⟨ret_bool (by rw [HE2.out, HZ.out]; rfl), HB.out⟩
      · have HE2 : Hid (fitsAB ⟨2, n, fr, to, ts, num⟩ = false) := by show _ = _; rw [HE.out]; simp [c2]
        have c3 : ¬ ((ts.length : Int) < 1) := by omega
        have c4 : (16 : Int) < (ts.length : Int) := by omega
        clear HE h hf
        go_enter Try.func82, Try.ntmps82
        go_wp2
        go_ret
        exact ⟨ret_bool HE2.out.symm, HB0.out⟩
    · have HE2 : Hid (fitsAB ⟨2, n, fr, to, ts, num⟩ = false) := by show _ = _; rw [HE.out]; simp [c1]
      have c3 : ((ts.length : Int) < 1) := by omega
      clear HE h hf
      go_enter Try.func82, Try.ntmps82
      go_wp2
      go_ret
      exact ⟨ret_bool HE2.out.symm, HB0.out⟩
  · have HE : Hid (fitsAB ⟨op, n, fr, to, ts, num⟩ = (ts.length == 0 && num == 0)) := by simp only [Hid, fitsAB]; rw [if_neg h2]
    have k1 : (op == 2) = false := by simpa using h2
    have k2 : (op != 2) = true := by simpa using h2
    clear h hf h2
    by_cases c1 : ts.length = 0
    · have c2 : ((ts.length : Int) == 0) = true := by rw [c1]; rfl
      have HE2 : Hid (fitsAB ⟨op, n, fr, to, ts, num⟩ = (num == 0)) := by show _ = _; rw [HE.out]; simp [c1]
      clear c1 HE
      go_enter Try.func82, Try.ntmps82
      go_wp2
      go_ret
      exact ⟨ret_bool HE2.out.symm, HB0.out⟩
    · have c2 : ((ts.length : Int) == 0) = false := by rw [beq_eq_false_iff_ne]; omega
      have HE2 : Hid (fitsAB ⟨op, n, fr, to, ts, num⟩ = false) := by show _ = _; rw [HE.out]; simp [c1]
      clear c1 HE
      go_enter Try.func82, Try.ntmps82
      go_wp2
      go_ret
      exact ⟨ret_bool HE2.out.symm, HB0.out⟩
def fitsB (x : Nd) : Bool := fitsNB x.op x.n && fitsIB x.op x.fr x.to && fitsAB x
set_option maxHeartbeats 2000000 in
theorem fits_any (x : Nd) (ta : Option Addr) (tc : Nat) (w : World) (h : TermRow w ta x.terms) (hf : NamesFit x.terms) (hl : x.terms.length ≤ 9223372036854775807) :
    Calls Try.prog 69 #[.agg #[.int .i64 x.op, .int .i64 x.n, .int .i64 x.fr, .int .i64 x.to, .slice ta x.terms.length tc, .int .i64 x.num]] w fun e w' => e = .returned (.bool (fitsB x)) ∧ Below w.heap.size w w' := by
  have HA : Hid (∀ X, Below w.heap.size w X → Calls Try.prog 82 #[.agg #[.int .i64 x.op, .int .i64 x.n, .int .i64 x.fr, .int .i64 x.to, .slice ta x.terms.length tc, .int .i64 x.num]] X fun e w' => e = .returned (.bool (fitsAB x)) ∧ Below X.heap.size X w') := fun X hX => fitsA_any x ta tc X (h.below hX) hf hl
  have HE : Hid (fitsB x = (fitsNB x.op x.n && fitsIB x.op x.fr x.to && fitsAB x)) := rfl
  obtain ⟨op, n, fr, to, ts, num⟩ := x
  simp only at HA HE
  have HN : Hid (∀ X, Calls Try.prog 80 #[.agg #[.int .i64 op, .int .i64 n, .int .i64 fr, .int .i64 to, .slice ta ts.length tc, .int .i64 num]] X fun e w' => e = .returned (.bool (fitsNB op n)) ∧ Below X.heap.size X w') := fun X => fitsN_any op n fr to num _ _ _ X
  have HI : Hid (∀ X, Calls Try.prog 81 #[.agg #[.int .i64 op, .int .i64 n, .int .i64 fr, .int .i64 to, .slice ta ts.length tc, .int .i64 num]] X fun e w' => e = .returned (.bool (fitsIB op fr to)) ∧ Below X.heap.size X w') := fun X => fitsI_any op n fr to num _ _ _ X
  generalize fitsB ⟨op, n, fr, to, ts, num⟩ = r at *
  generalize fitsAB ⟨op, n, fr, to, ts, num⟩ = ra at *
  generalize fitsNB op n = rn at *
  generalize fitsIB op fr to = ri at *
  have HB0 : Hid (Below w.heap.size w (w.alloc (.cells #[.int .i64 op, .int .i64 n, .int .i64 fr, .int .i64 to, .slice ta ts.length tc, .int .i64 num] 67))) := (Below.refl _ _).alloc (Nat.le_refl _) _
  have HU : Hid (∀ X, Below (w.alloc (.cells #[.int .i64 op, .int .i64 n, .int .i64 fr, .int .i64 to, .slice ta ts.length tc, .int .i64 num] 67)).heap.size (w.alloc (.cells #[.int .i64 op, .int .i64 n, .int .i64 fr, .int .i64 to, .slice ta ts.length tc, .int .i64 num] 67)) X → ∀ j, X.cell? ⟨w.heap.size, j, none⟩ = (w.alloc (.cells #[.int .i64 op, .int .i64 n, .int .i64 fr, .int .i64 to, .slice ta ts.length tc, .int .i64 num] 67)).cell? ⟨w.heap.size, j, none⟩) := fun X hX j => hX.cell (p := ⟨w.heap.size, j, none⟩) (by simp)
  clear h
  go_enter Try.func69, Try.ntmps69
  go_wp2_with fail
  refine Calls.mono (HN.out _) ?_
  rintro e W1 ⟨rfl, hb1⟩
  have HB1 : Hid (Below w.heap.size w W1) := HB0.out.trans (hb1.mono HB0.out.size)
  have e0 : W1.cell? ⟨w.heap.size, 0, none⟩ = some (.int .i64 op) := by rw [HU.out _ hb1]; simp [go_sem]
  have e1 : W1.cell? ⟨w.heap.size, 1, none⟩ = some (.int .i64 n) := by rw [HU.out _ hb1]; simp [go_sem]
  have e2 : W1.cell? ⟨w.heap.size, 2, none⟩ = some (.int .i64 fr) := by rw [HU.out _ hb1]; simp [go_sem]
  have e3 : W1.cell? ⟨w.heap.size, 3, none⟩ = some (.int .i64 to) := by rw [HU.out _ hb1]; simp [go_sem]
  have e4 : W1.cell? ⟨w.heap.size, 4, none⟩ = some (.slice ta ts.length tc) := by rw [HU.out _ hb1]; simp [go_sem]
  have e5 : W1.cell? ⟨w.heap.size, 5, none⟩ = some (.int .i64 num) := by rw [HU.out _ hb1]; simp [go_sem]
  cases rn with
  | false =>
    go_wp2
    go_ret
    exact ⟨ret_bool (by rw [HE.out]; rfl), HB1.out⟩
  | true =>
    go_wp2_with fail
    refine Calls.mono (HI.out _) ?_
    rintro e W2 ⟨rfl, hb2⟩
    have HB2 : Hid (Below w.heap.size w W2) := HB1.out.trans (hb2.mono HB1.out.size)
    have k0 := cell_up hb2 e0
    have k1 := cell_up hb2 e1
    have k2 := cell_up hb2 e2
    have k3 := cell_up hb2 e3
    have k4 := cell_up hb2 e4
    have k5 := cell_up hb2 e5
    clear hb2 hb1 e0 e1 e2 e3 e4 e5
    cases ri with
    | false =>
      go_wp2
      go_ret
      exact ⟨ret_bool (by rw [HE.out]; rfl), HB2.out⟩
    | true =>
      go_wp2_with fail
      refine Calls.mono (HA.out _ HB2.out) ?_
      rintro e W3 ⟨rfl, hb3⟩
      have HB3 : Hid (Below w.heap.size w W3) := HB2.out.trans (hb3.mono HB2.out.size)
      clear hb3
      go_wp2
      go_ret
      exact ⟨ret_bool (by rw [HE.out]; rfl), HB3.out⟩
end Go.Proofs.Ytjnnjjajlafchaa

namespace Go.Proofs.Ytjnnjjajlafchaa
open Go.RowKit
set_option linter.unusedVariables false
set_option maxRecDepth 100000

/-- f, so many times. -/
def iterO (f : List Nd → Option (List Nd)) : Nat → List Nd → Option (List Nd)
  | 0, r => some r
  | k + 1, r => (f r).bind (iterO f k)
theorem iterO_succ (f : List Nd → Option (List Nd)) (k : Nat) (r : List Nd) : iterO f (k + 1) r = (iterO f k r).bind f := by
  induction k generalizing r with
  | zero => simp only [iterO, Option.bind_some]; cases f r <;> rfl
  | succ k ih =>
    rw [iterO]
    cases h : f r with
    | none => simp [iterO, h]
    | some s => simp only [Option.bind_some]; rw [ih]; simp [iterO, h]
theorem iterO_none (f : List Nd → Option (List Nd)) (k m : Nat) (r : List Nd) (h : iterO f k r = none) : iterO f (k + m) r = none := by
  induction m with
  | zero => exact h
  | succ m ih => rw [← Nat.add_assoc, iterO_succ, ih]; rfl
/-- What stands behind the first part, where d more may stand within one another. -/
def restD : Nat → List Nd → Option (List Nd)
  | 0, _ => none
  | _ + 1, [] => none
  | d + 1, x :: r => if fitsB x then iterO (restD d) x.n.toNat r else none
/-- Every list that is asked is some list less its beginning. -/
def Dropped (l r : List Nd) : Prop := ∃ k, r = l.drop k
theorem Dropped.refl (l : List Nd) : Dropped l l := ⟨0, rfl⟩
theorem Dropped.trans {l r s : List Nd} (h : Dropped l r) (k : Dropped r s) : Dropped l s := by
  obtain ⟨i, rfl⟩ := h; obtain ⟨j, rfl⟩ := k; exact ⟨i + j, by rw [List.drop_drop]⟩
theorem fitsB_n {x : Nd} (h : fitsB x = true) : 0 ≤ x.n := by
  unfold fitsB at h
  simp only [Bool.and_eq_true] at h
  have h1 := h.1.1
  unfold fitsNB at h1
  split at h1
  · simp at h1; omega
  · split at h1
    · simp at h1; omega
    · split at h1
      · simp at h1; omega
      · split at h1
        · simp at h1; omega
        · cases h1
/-- Lists whose names and terms can be looked at. -/
def NodesFit (l : List Nd) : Prop := ∀ x ∈ l, NamesFit x.terms ∧ x.terms.length ≤ 9223372036854775807 ∧ x.n ≤ 9223372036854775807
theorem NodesFit.drop {l : List Nd} (h : NodesFit l) (k : Nat) : NodesFit (l.drop k) := fun x hx => h x (List.mem_of_mem_drop hx)
theorem size_node (w : World) : (sizeOf (Try.prog.elem 53)).run Try.prog w = .ok 6 w := by kernel_rfl
/-- 'n[1:]'. -/
theorem nodes_tail (b off cap : Nat) (x : Nd) (l : List Nd) (w : World) (hr : NodeRow w (some ⟨b, off, none⟩) (x :: l)) (hcap : l.length + 1 ≤ cap) :
    ∃ a2, (∀ W, (Instr.slice 53 (.slice (some ⟨b, off, none⟩) (l.length + 1) cap) (some (.int .i64 1)) none none).run Try.prog W = .ok (.slice a2 l.length (cap - 1)) W) ∧ NodeRow w a2 l := by
  refine ⟨if cap = 1 then some ⟨b, off, none⟩ else (some (⟨b, off, none⟩ : Addr)).map (·.add (1 * 6)), fun W => ?_, ?_⟩
  · rw [run_slice_l W 53 _ (l.length + 1) cap (by kernel_rfl) .i64 1 (by omega) (by omega), size_node]
    rfl
  · by_cases e : cap = 1
    · obtain rfl : l = [] := List.length_eq_zero_iff.1 (by omega)
      exact fun i hi => by simp at hi
    · rw [if_neg e]
      have := hr.drop 1
      simpa [addr_add] using this
/-- What behind tells. -/
def BehindTells (W : World) (d : Nat) (l : List Nd) (e : Ending) (W' : World) : Prop := Below W.heap.size W W' ∧
  ((restD d l = none ∧ e = .returned (.tuple #[.slice none 0 0, .bool false])) ∨ (∃ r a cap, restD d l = some r ∧ Dropped l r ∧ r.length < l.length ∧ e = .returned (.tuple #[.slice a r.length cap, .bool true]) ∧ NodeRow W' a r ∧ r.length ≤ cap))
set_option maxHeartbeats 4000000 in
theorem behind_any (d : Nat) : ∀ (v : Int) (hv : v + d = 24) (h0 : 0 ≤ v) (a : Option Addr) (cap : Nat) (l : List Nd) (W : World) (h : NodeRow W a l) (hcap : l.length ≤ cap) (hf : NodesFit l) (hl : l.length ≤ 9223372036854775807),
    Calls Try.prog 48 #[.slice a l.length cap, .int .i64 v] W (BehindTells W d l) := by
  induction d with
  | zero =>
    intro v hv h0 a cap l W h hcap hf hl
    obtain rfl : v = 24 := by omega
    cases l with
    | nil =>
      have HE : Hid (BehindTells W 0 [] (.returned (.tuple #[.slice none 0 0, .bool false])) W) := ⟨Below.refl _ _, .inl ⟨rfl, rfl⟩⟩
      go_enter Try.func48, Try.ntmps48
      go_wp2
      go_ret2
      exact HE.out
    | cons x l =>
      have HE : Hid (BehindTells W 0 (x :: l) (.returned (.tuple #[.slice none 0 0, .bool false])) W) := ⟨Below.refl _ _, .inl ⟨rfl, rfl⟩⟩
      have e : (x :: l).length = l.length + 1 := rfl
      rw [e] at hl ⊢
      have hne : (((l.length + 1 : Nat) : Int) == 0) = false := by rw [beq_eq_false_iff_ne]; omega
      clear h hf hcap e
      generalize l.length + 1 = n at *
      go_enter Try.func48, Try.ntmps48
      go_wp2
      go_ret2
      exact HE.out
  | succ d ih =>
    intro v hv h0 a cap l W h hcap hf hl
    have hv24 : v < 24 := by omega
    cases l with
    | nil =>
      have HE : Hid (BehindTells W (d + 1) [] (.returned (.tuple #[.slice none 0 0, .bool false])) W) := ⟨Below.refl _ _, .inl ⟨rfl, rfl⟩⟩
      go_enter Try.func48, Try.ntmps48
      go_wp2
      go_ret2
      exact HE.out
    | cons x l =>
      have HIH : Hid (∀ (v : Int) (hv : v + d = 24) (h0 : 0 ≤ v) (a : Option Addr) (cap : Nat) (l : List Nd) (W : World) (h : NodeRow W a l) (hcap : l.length ≤ cap) (hf : NodesFit l) (hl : l.length ≤ 9223372036854775807), Calls Try.prog 48 #[.slice a l.length cap, .int .i64 v] W (BehindTells W d l)) := ih
      clear ih
      have e : (x :: l).length = l.length + 1 := rfl
      rw [e] at hcap hl ⊢
      obtain ⟨b, off, rfl, n0, n1, n2, n3, ⟨ta, tc, n4, ht⟩, n5⟩ := h 0 (by simp)
      simp only [Nat.zero_mul, Nat.add_zero, List.getD_cons_zero] at n0 n1 n2 n3 n4 n5 ht
      obtain ⟨a2, hsl, hr2⟩ := nodes_tail b off cap x l W h hcap
      obtain ⟨hfx, hfl, hxm⟩ := hf x (by simp)
      have HFI := fits_any x ta tc W ht hfx hfl
      have hne : ((l.length : Int) + 1 == 0) = false := by rw [beq_eq_false_iff_ne]; omega
      have HF : Hid (NodesFit l) := fun y hy => hf y (by simp [hy])
      have HR2 : Hid (NodeRow W a2 l) := hr2
      have HD : Hid (restD (d + 1) (x :: l) = if fitsB x then iterO (restD d) x.n.toNat l else none) := rfl
      have HXN : Hid (fitsB x = true → 0 ≤ x.n) := fitsB_n
      have hp0 : ((0 : Nat) : Int) = 0 := rfl
      clear h hf hfx hfl ht hr2 e
      generalize fitsB x = fx at *
      obtain ⟨op, xn, fr, to, ts, num⟩ := x
      simp only at n0 n1 n2 n3 n4 n5 HFI HD HXN hxm
      have HW : Hid (∀ e W', Below W.heap.size W W' → restD (d + 1) (⟨op, xn, fr, to, ts, num⟩ :: l) = none → e = .returned (.tuple #[.slice none 0 0, .bool false]) → BehindTells W (d + 1) (⟨op, xn, fr, to, ts, num⟩ :: l) e W') := fun e W' h1 h2 h3 => ⟨h1, .inl ⟨h2, h3⟩⟩
      have HWY : Hid (∀ W' r ar cr, Below W.heap.size W W' → restD (d + 1) (⟨op, xn, fr, to, ts, num⟩ :: l) = some r → Dropped l r → NodeRow W' ar r → r.length ≤ cr → BehindTells W (d + 1) (⟨op, xn, fr, to, ts, num⟩ :: l) (.returned (.tuple #[.slice ar r.length cr, .bool true])) W') := fun W' r ar cr h1 h2 h3 h4 h5 => ⟨h1, .inr ⟨r, ar, cr, h2, (Dropped.trans ⟨1, rfl⟩ h3), by
        obtain ⟨k, rfl⟩ := h3; rw [List.length_drop, List.length_cons]; omega, rfl, h4, h5⟩⟩
      cases fx with
      | false =>
        go_enter Try.func48, Try.ntmps48
        go_wp2_with (go_at_call 69; refine HFI.mono ?_; rintro e W1 ⟨rfl, hb1⟩)
        go_ret2
        exact HW.out _ _ hb1 (by rw [HD.out]; rfl) rfl
      | true =>
        have hx0 : 0 ≤ xn := HXN.out rfl
        have HD2 : Hid (restD (d + 1) (⟨op, xn, fr, to, ts, num⟩ :: l) = iterO (restD d) xn.toNat l) := HD.out
        clear HXN HD
        go_enter Try.func48, Try.ntmps48
        go_wp2_with fail
        refine HFI.mono ?_
        rintro e W1 ⟨rfl, hb1⟩
        have HB1 : Hid (Below W.heap.size W W1) := hb1
        have m1 := cell_up hb1 n1
        clear n0 n1 n2 n3 n4 n5 hb1
        go_wp2
        go_loopw [6, 29] (fun s i wr => ∃ k : Nat, k ≤ xn.toNat ∧ i = .int .i64 k ∧ Below W.heap.size W wr ∧ ∃ r ar cr, s = .slice ar r.length cr ∧ iterO (restD d) k l = some r ∧ NodeRow wr ar r ∧ r.length ≤ cr ∧ Dropped l r) (fun s i wr => xn.toNat - (intOf i).toNat)
        case atStart => exact ⟨0, Nat.zero_le _, rfl, HB1.out, l, a2, cap - 1, rfl, rfl, HR2.out.below HB1.out, by omega, Dropped.refl l⟩
        case round =>
          obtain ⟨k, hk, rfl, hb, r, ar, cr, rfl, hi, hr, hrc, hd⟩ := hrel
          have HB : Hid (Below W.heap.size W wr) := hb
          have HI : Hid (iterO (restD d) k l = some r) := hi
          have HD : Hid (Dropped l r) := hd
          have HRR : Hid (NodeRow wr ar r) := hr
          have hlen : r.length ≤ l.length := by obtain ⟨q, rfl⟩ := hd; rw [List.length_drop]; omega
          have hrl : r.length ≤ 9223372036854775807 := by omega
          have HFR : Hid (NodesFit r) := by obtain ⟨q, rfl⟩ := hd; exact HF.out.drop q
          clear hb hi hd hr
          by_cases hlt : (k : Int) < xn
          · have HC := HIH.out (v + 1) (by omega) (by omega) ar cr r wr HRR.out hrc HFR.out hrl
            have HS : Hid (iterO (restD d) (k + 1) l = restD d r) := by show _ = _; rw [iterO_succ, HI.out]; rfl
            have HZ : Hid (restD d r = none → iterO (restD d) xn.toNat l = none) := fun q => by
              have e1 : iterO (restD d) (k + 1) l = none := by rw [HS.out]; exact q
              have e2 : xn.toNat = (k + 1) + (xn.toNat - (k + 1)) := by omega
              rw [e2]; exact iterO_none _ _ _ _ e1
            have hv25 : v + 1 ≤ 24 := by omega
            go_wp2_with fail
            refine Calls.mono HC ?_
            rintro e W3 ⟨hb3, h3⟩
            have HB3 : Hid (Below W.heap.size W W3) := HB.out.trans (hb3.mono HB.out.size)
            clear hb3
            rcases h3 with ⟨hn, rfl⟩ | ⟨r3, a3, c3, hs3, hd3, hl3, rfl, hr3, hc3⟩
            · have HN : Hid (iterO (restD d) xn.toNat l = none) := HZ.out hn
              clear hn HC
              go_wp2
              go_ret2
              exact HW.out _ _ HB3.out (by rw [HD2.out]; exact HN.out) rfl
            · have HN : Hid (iterO (restD d) (k + 1) l = some r3) := by show _ = _; rw [HS.out]; exact hs3
              have HD3 : Hid (Dropped l r3) := HD.out.trans hd3
              have HR3 : Hid (NodeRow W3 a3 r3) := hr3
              clear hs3 hd3 hr3 HC
              go_wp2
              go_roundw
              case rel => exact ⟨k + 1, by omega, by go_num, HB3.out, r3, a3, c3, rfl, HN.out, HR3.out, hc3, HD3.out⟩
              case measure => simp [intOf]; omega
          · have hkk : k = xn.toNat := by omega
            have HZ : Hid (iterO (restD d) xn.toNat l = some r) := by have := HI.out; rw [hkk] at this; exact this
            clear hkk
            go_wp2
            go_ret2
            exact HWY.out _ _ _ _ HB.out (by rw [HD2.out]; exact HZ.out) HD.out HRR.out hrc
end Go.Proofs.Ytjnnjjajlafchaa

namespace Go.Proofs.Ytjnnjjajlafchaa
open Go.RowKit
set_option linter.unusedVariables false
set_option maxRecDepth 100000

/-- The first error, and whose, of signals that are added behind others. -/
def newE (acc : List Sig) : List Sig → Int × ByteArray
  | [] => (0, ⟨#[]⟩)
  | x :: r => if addE acc x = 0 then newE (acc ++ [x]) r else (addE acc x, x.name)
theorem newE_take (l : List Sig) (k : Nat) (hk : k < l.length) (h : addE (l.take k) (l.getD k sig0) = 0) (he : newE [] l = newE (l.take k) (l.drop k)) : newE [] l = newE (l.take (k + 1)) (l.drop (k + 1)) := by
  rw [he, List.drop_eq_getElem_cons hk, List.take_succ_eq_append_getElem hk]
  have e : l.getD k sig0 = l[k] := by simp [List.getD_eq_getElem?_getD, hk]
  rw [e] at h
  simp only [newE]
  rw [if_pos h]
theorem newE_bad (l : List Sig) (k : Nat) (hk : k < l.length) (h : addE (l.take k) (l.getD k sig0) ≠ 0) (he : newE [] l = newE (l.take k) (l.drop k)) : newE [] l = (addE (l.take k) (l.getD k sig0), (l.getD k sig0).name) := by
  rw [he, List.drop_eq_getElem_cons hk]
  have e : l.getD k sig0 = l[k] := by simp [List.getD_eq_getElem?_getD, hk]
  rw [e] at h ⊢
  simp only [newE]
  rw [if_neg h]
theorem newE_all (l : List Sig) (k : Nat) (hk : l.length ≤ k) (he : newE [] l = newE (l.take k) (l.drop k)) : newE [] l = (0, ⟨#[]⟩) := by
  rw [he, List.drop_of_length_le hk]; rfl
/-- What NewNames tells besides the names. -/
def namesE (l : List Sig) : Int × ByteArray := if 16 < l.length then (2, ⟨#[]⟩) else newE [] l
/-- What NewNames tells. -/
def NamesTell (W : World) (l : List Sig) (e : Ending) (W' : World) : Prop :=
  Below W.heap.size W W' ∧ (((namesE l).1 ≠ 0 ∧ e = .returned (.tuple #[.pointer none, .int .i64 (namesE l).1, .string (namesE l).2])) ∨
    ((namesE l).1 = 0 ∧ ∃ p v, e = .returned (.tuple #[.pointer (some ⟨p, 0, none⟩), .int .i64 0, .string ⟨#[]⟩]) ∧ NmOwn W' W.heap.size p v l))
set_option maxHeartbeats 2000000 in
theorem newNames_any (a : Option Addr) (cap : Nat) (l : List Sig) (W : World) (h : SigRow W a l) (hl : l.length ≤ 1000) (hs : ∀ x ∈ l, x.name.size ≤ 9223372036854775807) :
    Calls Try.prog 8 #[.slice a l.length cap] W (NamesTell W l) := by
  have HR : Hid (SigRow W a l) := h
  have HS : Hid (∀ x ∈ l, x.name.size ≤ 9223372036854775807) := hs
  clear h hs
  by_cases hbig : 16 < l.length
  · have HE : Hid (namesE l = (2, ⟨#[]⟩)) := by simp [Hid, namesE, hbig]
    go_enter Try.func8, Try.ntmps8
    go_wp2
    refine bodyPost_ret (v := .tuple #[.pointer none, .int .i64 2, .string ⟨#[]⟩]) (by simp [results, Try.results8, go_sem]) rfl ⟨Below.refl _ _, .inl ?_⟩
    rw [HE.out]; exact ⟨by simp, rfl⟩
  · have HE : Hid (namesE l = newE [] l) := by simp only [Hid, namesE]; rw [if_neg hbig]
    have HI : Hid (NmOwn (W.alloc (.cells #[.slice none 0 0] 56)) W.heap.size W.heap.size (.slice none 0 0) []) := ⟨by simp [go_sem], by simp [go_sem], Own.nil _ _ _ _ _, Nat.le_refl _, by simp [Value.ownBlock]⟩
    have HB0 : Hid (Below W.heap.size W (W.alloc (.cells #[.slice none 0 0] 56))) := (Below.refl _ _).alloc (Nat.le_refl _) _
    go_enter Try.func8, Try.ntmps8
    go_wp2
    go_loopw [16] (fun i wr => ∃ k : Nat, k ≤ l.length ∧ i = .int .i64 k ∧ Below W.heap.size W wr ∧ (∃ v, NmOwn wr W.heap.size W.heap.size v (l.take k)) ∧ newE [] l = newE (l.take k) (l.drop k)) (fun i _ => l.length - (intOf i).toNat)
    case atStart => exact ⟨0, Nat.zero_le _, rfl, HB0.out, ⟨_, HI.out⟩, rfl⟩
    case round =>
      obtain ⟨k, hk, rfl, hb, ⟨v, hn⟩, hj⟩ := hrel
      have HB : Hid (Below W.heap.size W wr) := hb
      have HN : Hid (NmOwn wr W.heap.size W.heap.size v (l.take k)) := hn
      have HJ : Hid (newE [] l = newE (l.take k) (l.drop k)) := hj
      clear hb hj hn
      by_cases hlt : k < l.length
      · obtain ⟨b, off, rfl, h0, h1, h2, h3⟩ := HR.out.below HB.out k hlt
        have HX : Hid (∀ x, l.getD k sig0 = x → x.name.size ≤ 9223372036854775807) := by
          rintro x rfl
          exact HS.out _ (by rw [List.getD_eq_getElem?_getD, List.getElem?_eq_getElem hlt]; exact List.getElem_mem hlt)
        have HT : Hid (addE (l.take k) (l.getD k sig0) = 0 → newE [] l = newE (l.take (k + 1)) (l.drop (k + 1))) := fun q => newE_take l k hlt q HJ.out
        have HTB : Hid (addE (l.take k) (l.getD k sig0) ≠ 0 → newE [] l = (addE (l.take k) (l.getD k sig0), (l.getD k sig0).name)) := fun q => newE_bad l k hlt q HJ.out
        have HK : Hid (l.take k ++ [l.getD k sig0] = l.take (k + 1)) := by
          show _ = _
          rw [List.take_succ_eq_append_getElem hlt]; simp [List.getD_eq_getElem?_getD, hlt]
        have hxs := HX.out _ rfl
        have hlen : (l.take k).length ≤ 1000 := by rw [List.length_take]; omega
        clear HX
        generalize l.getD k sig0 = x at *
        have hltw : W.heap.size < wr.heap.size := World.block_lt_of_cell? wr _ HN.out.cell
        by_cases he : addE (l.take k) x = 0
        · have HA : Hid (∀ X, Below wr.heap.size wr X → Calls Try.prog 23 #[.pointer (some ⟨W.heap.size, 0, none⟩), .agg #[.string x.name, .string x.unit, .int .i64 x.lo, .int .i64 x.hi]] X fun e W' => e = .returned (.int .i64 0) ∧ Below W.heap.size X W' ∧ ∃ v', NmOwn W' W.heap.size W.heap.size v' (l.take k ++ [x])) :=
            fun X hX => add_good W.heap.size W.heap.size v (l.take k) x X (HN.out.below hX) (by have := hX.size; omega) hlen hxs he
          have HT2 : Hid (newE [] l = newE (l.take (k + 1)) (l.drop (k + 1))) := HT.out he
          obtain ⟨xn, xu, xl, xh⟩ := x
          simp only at h0 h1 h2 h3 HA
          clear HT HTB he hlen hxs
          go_wp2_with fail
          refine Calls.mono (HA.out _ ((Below.refl _ _).alloc (Nat.le_refl _) _)) ?_
          rintro e W3 ⟨rfl, hb3, v3, hn3⟩
          rw [HK.out] at hn3
          have HB3 : Hid (Below W.heap.size W W3) := (HB.out.alloc HB.out.size _).trans hb3
          have HN3 : Hid (NmOwn W3 W.heap.size W.heap.size v3 (l.take (k + 1))) := hn3
          clear hb3 hn3
          go_wp2
          go_roundw
          case rel => exact ⟨k + 1, by omega, by go_num, HB3.out, ⟨_, HN3.out⟩, HT2.out⟩
          case measure => simp [intOf]; omega
        · have HA : Hid (∀ X, Below wr.heap.size wr X → Calls Try.prog 23 #[.pointer (some ⟨W.heap.size, 0, none⟩), .agg #[.string x.name, .string x.unit, .int .i64 x.lo, .int .i64 x.hi]] X fun e W' => e = .returned (.int .i64 (addE (l.take k) x)) ∧ Below X.heap.size X W') :=
            fun X hX => add_bad W.heap.size W.heap.size v (l.take k) x X (HN.out.below hX) hlen hxs he
          have HT2 : Hid (newE [] l = (addE (l.take k) x, x.name)) := HTB.out he
          have HE0 : Hid (addE (l.take k) x ≠ 0) := he
          have hne1 : (addE (l.take k) x == 0) = false := by simpa using he
          have hne2 : (addE (l.take k) x != 0) = true := by simpa using he
          generalize addE (l.take k) x = ae at *
          obtain ⟨xn, xu, xl, xh⟩ := x
          simp only at h0 h1 h2 h3 HA HT2
          clear HT HTB he hlen hxs
          go_wp2_with fail
          refine Calls.mono (HA.out _ ((Below.refl _ _).alloc (Nat.le_refl _) _)) ?_
          rintro e W3 ⟨rfl, hb3⟩
          have HB3 : Hid (Below W.heap.size W W3) := (HB.out.alloc HB.out.size _).trans (hb3.mono (by have := HB.out.size; simp; omega))
          have c0 : W3.cell? ⟨wr.heap.size, 0, none⟩ = some (.string xn) := by rw [hb3.cell (p := ⟨wr.heap.size, 0, none⟩) (by simp)]; simp [go_sem]
          clear hb3
          go_wp2
          go_region
          go_wp2
          refine bodyPost_ret (v := .tuple #[.pointer none, .int .i64 ae, .string xn]) (by simp [results, Try.results8, go_sem]) rfl ⟨HB3.out.drew, .inl ?_⟩
          rw [HE.out, HT2.out]; exact ⟨HE0.out, rfl⟩
      · have hkk : k = l.length := by omega
        have HZ : Hid (newE [] l = (0, ⟨#[]⟩)) := newE_all l k (by omega) HJ.out
        have HN2 : Hid (NmOwn wr W.heap.size W.heap.size v l) := by have := HN.out; rw [hkk, List.take_length] at this; exact this
        clear hkk
        go_wp2
        refine bodyPost_ret (v := .tuple #[.pointer (some ⟨W.heap.size, 0, none⟩), .int .i64 0, .string ⟨#[]⟩]) (by simp [results, Try.results8, go_sem]) rfl ⟨HB.out, .inr ?_⟩
        rw [HE.out, HZ.out]; exact ⟨rfl, _, _, rfl, HN2.out⟩
end Go.Proofs.Ytjnnjjajlafchaa

namespace Go.Proofs.Ytjnnjjajlafchaa
open Go.RowKit
set_option linter.unusedVariables false
set_option maxRecDepth 100000

def validB (l : List Nd) : Bool := decide (l.length ≤ 300) && (match restD 24 l with | some r => r.length == 0 | none => false)
set_option maxHeartbeats 1000000 in
theorem valid_any (a : Option Addr) (cap : Nat) (l : List Nd) (W : World) (h : NodeRow W a l) (hcap : l.length ≤ cap) (hf : NodesFit l) (hl : l.length ≤ 9223372036854775807) :
    Calls Try.prog 30 #[.slice a l.length cap] W fun e W' => e = .returned (.bool (validB l)) ∧ Below W.heap.size W W' := by
  by_cases hb : l.length ≤ 300
  · have HE : Hid (validB l = (match restD 24 l with | some r => r.length == 0 | none => false)) := by simp [Hid, validB, hb]
    have HC := behind_any 24 0 (by omega) (by omega) a cap l W h hcap hf hl
    clear h hf
    go_enter Try.func30, Try.ntmps30
    go_wp2_with fail
    refine Calls.mono HC ?_
    rintro e W1 ⟨hb1, h1⟩
    have HB1 : Hid (Below W.heap.size W W1) := hb1
    clear hb1 HC
    rcases h1 with ⟨hn, rfl⟩ | ⟨r, a3, c3, hs3, _, hl3, rfl, hr3, hc3⟩
    · rw [hn] at HE
      clear hn
      go_wp2
      go_ret
      exact ⟨ret_bool HE.out.symm, HB1.out⟩
    · rw [hs3] at HE
      clear hs3 hr3
      by_cases h0 : r.length = 0
      · have HZ : Hid ((r.length == 0) = true) := by simp only [Hid]; rw [h0]; rfl
        have k0 : ((r.length : Int) == 0) = true := by rw [h0]; rfl
        clear h0
        go_wp2
        go_ret
        exact ⟨ret_bool (by rw [HE.out]; exact HZ.out.symm), HB1.out⟩
      · have HZ : Hid ((r.length == 0) = false) := by simp only [Hid]; rw [beq_eq_false_iff_ne]; exact h0
        have k0 : ((r.length : Int) == 0) = false := by rw [beq_eq_false_iff_ne]; omega
        clear h0
        go_wp2
        go_ret
        exact ⟨ret_bool (by rw [HE.out]; exact HZ.out.symm), HB1.out⟩
  · have HE : Hid (validB l = false) := by simp [Hid, validB, hb]
    clear h hf
    go_enter Try.func30, Try.ntmps30
    go_wp2
    go_ret
    exact ⟨ret_bool HE.out.symm, Below.refl _ _⟩

def intervalE (fr to : Int) : Int := if (to ≠ -1 ∧ to < fr) ∨ 1000 < fr ∨ 1000 < to then 42 else 0
set_option maxHeartbeats 1000000 in
theorem interval_any (fr to : Int) (w : World) : Calls Try.prog 50 #[.int .i64 fr, .int .i64 to] w fun e w' => e = .returned (.int .i64 (intervalE fr to)) ∧ w' = w := by
  by_cases h1 : to = -1
  · subst h1
    by_cases h2 : 1000 < fr
    · have HE : Hid (intervalE fr (-1) = 42) := by simp only [Hid, intervalE]; rw [if_pos (by omega)]
      go_enter Try.func50, Try.ntmps50
      go_wp2
      go_ret
      exact ⟨ret_int HE.out.symm, rfl⟩
    · have HE : Hid (intervalE fr (-1) = 0) := by simp only [Hid, intervalE]; rw [if_neg (by omega)]
      go_enter Try.func50, Try.ntmps50
      go_wp2
      go_ret
      exact ⟨ret_int HE.out.symm, rfl⟩
  · have k1 : (to == -1) = false := by simpa using h1
    have k2 : (to != -1) = true := by simpa using h1
    by_cases h3 : to < fr
    · have HE : Hid (intervalE fr to = 42) := by simp only [Hid, intervalE]; rw [if_pos (by omega)]
      clear h1
      go_enter Try.func50, Try.ntmps50
      go_wp2
      go_ret
      exact ⟨ret_int HE.out.symm, rfl⟩
    · by_cases h2 : 1000 < fr
      · have HE : Hid (intervalE fr to = 42) := by simp only [Hid, intervalE]; rw [if_pos (by omega)]
        clear h1
        go_enter Try.func50, Try.ntmps50
        go_wp2
        go_ret
        exact ⟨ret_int HE.out.symm, rfl⟩
      · by_cases h4 : 1000 < to
        · have HE : Hid (intervalE fr to = 42) := by simp only [Hid, intervalE]; rw [if_pos (by omega)]
          clear h1
          go_enter Try.func50, Try.ntmps50
          go_wp2
          go_ret
          exact ⟨ret_int HE.out.symm, rfl⟩
        · have HE : Hid (intervalE fr to = 0) := by simp only [Hid, intervalE]; rw [if_neg (by omega)]
          clear h1
          go_enter Try.func50, Try.ntmps50
          go_wp2
          go_ret
          exact ⟨ret_int HE.out.symm, rfl⟩

theorem fld1 (n u : ByteArray) (l h : Int) (X : World) : (Instr.field 27 (.agg #[.string n, .string u, .int .i64 l, .int .i64 h]) 1).run Try.prog X = .ok (.string u) X := by kernel_rfl
theorem fld2 (n u : ByteArray) (l h : Int) (X : World) : (Instr.field 27 (.agg #[.string n, .string u, .int .i64 l, .int .i64 h]) 2).run Try.prog X = .ok (.agg #[.int .i64 l, .int .i64 h]) X := by kernel_rfl
def unitOf (l : List Sig) (s : ByteArray) : ByteArray := (l.getD (idxN l s) sig0).unit
def atomE (l : List Sig) (ts : List Tm) : Int := if ts.all (fun t => hasB l t.name) = false then 40 else if ts.all (fun t => eqS (unitOf l t.name) (unitOf l (ts.getD 0 tm0).name)) = false then 41 else 0
theorem allP_take (p : Tm → Bool) (l : List Tm) (k : Nat) (hk : k < l.length) : (l.take (k + 1)).all p = ((l.take k).all p && p (l.getD k tm0)) := by
  rw [List.take_succ_eq_append_getElem hk, List.all_append]
  simp [List.getD_eq_getElem?_getD, hk]
theorem allP_bad (p : Tm → Bool) (l : List Tm) (k : Nat) (hk : k < l.length) (h : p (l.getD k tm0) = false) : l.all p = false := by
  rw [List.all_eq_false]
  refine ⟨l[k], List.getElem_mem hk, ?_⟩
  simpa [List.getD_eq_getElem?_getD, hk] using h
theorem allP_at (p : Tm → Bool) (l : List Tm) (k : Nat) (hk : k < l.length) (h : l.all p = true) : p (l.getD k tm0) = true := by
  rw [List.all_eq_true] at h
  have := h l[k] (List.getElem_mem hk)
  simpa [List.getD_eq_getElem?_getD, hk] using this
theorem hasB_lt {l : List Sig} {s : ByteArray} (h : hasB l s = true) : idxN l s < l.length := by simpa [hasB] using h
set_option maxHeartbeats 4000000 in
theorem atom_any (p : Nat) (l : List Sig) (ta : Option Addr) (tc : Nat) (ts : List Tm) (W : World) (hp : NmAt W p l) (hl : l.length ≤ 1000000) (h : TermRow W ta ts) (hn : 0 < ts.length) (hm : ts.length ≤ 9223372036854775807) :
    Calls Try.prog 49 #[.pointer (some ⟨p, 0, none⟩), .slice ta ts.length tc] W fun e W' => e = .returned (.int .i64 (atomE l ts)) ∧ Below W.heap.size W W' := by
  have HP : Hid (∀ X, Below W.heap.size W X → NmAt X p l) := fun X hX => hp.below hX
  have HR : Hid (TermRow W ta ts) := h
  clear hp h
  go_enter Try.func49, Try.ntmps49
  go_wp2
  go_loopw [12] (fun i wr => ∃ k : Nat, k ≤ ts.length ∧ i = .int .i64 k ∧ Below W.heap.size W wr ∧ (ts.take k).all (fun t => hasB l t.name) = true) (fun i _ => ts.length - (intOf i).toNat)
  case atStart => exact ⟨0, Nat.zero_le _, rfl, Below.refl _ _, rfl⟩
  case round =>
    obtain ⟨k, hk, rfl, hb, ha⟩ := hrel
    have HB : Hid (Below W.heap.size W wr) := hb
    have HA : Hid ((ts.take k).all (fun t => hasB l t.name) = true) := ha
    clear hb ha
    by_cases hlt : k < ts.length
    · obtain ⟨b, off, rfl, h0, h1⟩ := HR.out.below HB.out k hlt
      have HT : Hid ((ts.take (k + 1)).all (fun t => hasB l t.name) = ((ts.take k).all (fun t => hasB l t.name) && hasB l (ts.getD k tm0).name)) := allP_take _ ts k hlt
      have HTB : Hid (hasB l (ts.getD k tm0).name = false → ts.all (fun t => hasB l t.name) = false) := fun q => allP_bad _ ts k hlt q
      generalize ts.getD k tm0 = t at *
      obtain ⟨tn, tt⟩ := t
      simp only at h0 h1 HT HTB
      have HB2 : Hid (Below W.heap.size W (wr.alloc (.cells #[.string tn, .int .i64 tt] 74))) := HB.out.alloc HB.out.size _
      have HH := has_any p l tn _ (HP.out _ HB2.out) hl
      cases b1 : hasB l tn with
      | false =>
        rw [b1] at HH
        have HZ : Hid (atomE l ts = 40) := by simp only [Hid, atomE]; rw [if_pos (HTB.out b1)]
        clear b1
        go_wp2_with fail
        refine Calls.mono HH ?_
        rintro e W3 ⟨rfl, hb3⟩
        have HB3 : Hid (Below W.heap.size W W3) := HB2.out.trans (hb3.mono HB2.out.size)
        clear hb3 HH
        go_wp2
        go_ret
        exact ⟨ret_int HZ.out.symm, HB3.out⟩
      | true =>
        rw [b1] at HH HT
        clear b1
        go_wp2_with fail
        refine Calls.mono HH ?_
        rintro e W3 ⟨rfl, hb3⟩
        have HB3 : Hid (Below W.heap.size W W3) := HB2.out.trans (hb3.mono HB2.out.size)
        clear hb3 HH
        go_wp2
        go_roundw
        case rel => exact ⟨k + 1, by omega, by go_num, HB3.out, by rw [HT.out, HA.out]; rfl⟩
        case measure => simp [intOf]; omega
    · have hkk : k = ts.length := by omega
      have HZ : Hid (ts.all (fun t => hasB l t.name) = true) := by have := HA.out; rw [hkk, List.take_length] at this; exact this
      obtain ⟨b, off, rfl, h0, h1⟩ := HR.out.below HB.out 0 hn
      have hi0 := hasB_lt (allP_at (fun t => hasB l t.name) ts 0 hn HZ.out)
      have HH := named_any p l (ts.getD 0 tm0).name _ (HP.out _ HB.out) hl hi0
      have HU : Hid ((l.getD (idxN l (ts.getD 0 tm0).name) sig0).unit = unitOf l (ts.getD 0 tm0).name) := rfl
      have HE : Hid (atomE l ts = if ts.all (fun t => eqS (unitOf l t.name) (unitOf l (ts.getD 0 tm0).name)) = false then 41 else 0) := by simp only [Hid, atomE]; rw [if_neg (by rw [HZ.out]; simp)]
      clear hkk hi0 hk
      generalize (ts.getD 0 tm0).name = n0 at *
      generalize (ts.getD 0 tm0).times = t0 at *
      generalize unitOf l n0 = u0 at *
      generalize l.getD (idxN l n0) sig0 = s0 at *
      obtain ⟨sn, su, sl, sh⟩ := s0
      simp only at HH HU
      have hsu : su = u0 := HU.out
      subst hsu
      clear HU
      have hfl := fld1 sn su sl sh
      simp only [Nat.zero_mul, Nat.add_zero] at h0 h1
      go_wp2_with fail
      refine Calls.mono HH ?_
      rintro e W3 ⟨rfl, hb3⟩
      have HB3 : Hid (Below W.heap.size W W3) := HB.out.trans (hb3.mono HB.out.size)
      clear hb3 HH h0 h1 hlt HA HB
      go_wp2
      clear hfl
      go_loopw [31] (fun i wr => ∃ k : Nat, k ≤ ts.length ∧ i = .int .i64 k ∧ Below W.heap.size W wr ∧ (ts.take k).all (fun t => eqS (unitOf l t.name) su) = true) (fun i _ => ts.length - (intOf i).toNat)
      case atStart => exact ⟨0, Nat.zero_le _, rfl, HB3.out, rfl⟩
      case round =>
        obtain ⟨k, hk, rfl, hb, ha⟩ := hrel
        have HB : Hid (Below W.heap.size W wr) := hb
        have HA : Hid ((ts.take k).all (fun t => eqS (unitOf l t.name) su) = true) := ha
        clear hb ha
        by_cases hlt : k < ts.length
        · obtain ⟨b', off', he', h0, h1⟩ := HR.out.below HB.out k hlt
          cases he'
          have HT : Hid ((ts.take (k + 1)).all (fun t => eqS (unitOf l t.name) su) = ((ts.take k).all (fun t => eqS (unitOf l t.name) su) && eqS (unitOf l (ts.getD k tm0).name) su)) := allP_take (fun t => eqS (unitOf l t.name) su) ts k hlt
          have HTB : Hid (eqS (unitOf l (ts.getD k tm0).name) su = false → ts.all (fun t => eqS (unitOf l t.name) su) = false) := fun q => allP_bad (fun t => eqS (unitOf l t.name) su) ts k hlt q
          have hik := hasB_lt (allP_at (fun t => hasB l t.name) ts k hlt HZ.out)
          generalize ts.getD k tm0 = t at *
          obtain ⟨tn, tt⟩ := t
          simp only at h0 h1 HT HTB hik
          have HB2 : Hid (Below W.heap.size W (wr.alloc (.cells #[.string tn, .int .i64 tt] 74))) := HB.out.alloc HB.out.size _
          have HH := named_any p l tn _ (HP.out _ HB2.out) hl hik
          have HU : Hid ((l.getD (idxN l tn) sig0).unit = unitOf l tn) := rfl
          clear hik
          generalize unitOf l tn = u1 at *
          generalize l.getD (idxN l tn) sig0 = s1 at *
          obtain ⟨xn, xu, xl, xh⟩ := s1
          simp only at HH HU
          have hxu : xu = u1 := HU.out
          subst hxu
          clear HU
          have hfl := fld1 xn xu xl xh
          cases b1 : eqS xu su with
          | false =>
            have HZ2 : Hid (atomE l ts = 41) := by show _ = _; rw [HE.out, if_pos (HTB.out b1)]
            have k1 : (xu.toList == su.toList) = false := b1
            have k2 : (xu.toList != su.toList) = true := by simp only [bne, k1]; rfl
            clear b1
            go_wp2_with fail
            refine Calls.mono HH ?_
            rintro e W3 ⟨rfl, hb3⟩
            have HB3 : Hid (Below W.heap.size W W3) := HB2.out.trans (hb3.mono HB2.out.size)
            clear hb3 HH
            go_wp2
            go_ret
            exact ⟨ret_int HZ2.out.symm, HB3.out⟩
          | true =>
            rw [b1] at HT
            have k1 : (xu.toList == su.toList) = true := b1
            have k2 : (xu.toList != su.toList) = false := by simp only [bne, k1]; rfl
            clear b1
            go_wp2_with fail
            refine Calls.mono HH ?_
            rintro e W3 ⟨rfl, hb3⟩
            have HB3 : Hid (Below W.heap.size W W3) := HB2.out.trans (hb3.mono HB2.out.size)
            clear hb3 HH
            go_wp2
            go_roundw
            case rel => exact ⟨k + 1, by omega, by go_num, HB3.out, by rw [HT.out, HA.out]; rfl⟩
            case measure => simp [intOf]; omega
        · have hkk : k = ts.length := by omega
          have HZ2 : Hid (atomE l ts = 0) := by
            show _ = _
            rw [HE.out, if_neg]
            have := HA.out; rw [hkk, List.take_length] at this; rw [this]; simp
          clear hkk
          go_wp2
          go_ret
          exact ⟨ret_int HZ2.out.symm, HB.out⟩
def partE (l : List Sig) (x : Nd) : Int := if x.op = 2 then atomE l x.terms else if x.op = 8 ∨ x.op = 9 ∨ x.op = 10 then intervalE x.fr x.to else 0
set_option maxHeartbeats 2000000 in
theorem part_any (p : Nat) (l : List Sig) (x : Nd) (ta : Option Addr) (tc : Nat) (W : World) (hp : NmAt W p l) (hl : l.length ≤ 1000000) (h : TermRow W ta x.terms) (hn : x.op = 2 → 0 < x.terms.length) (hm : x.terms.length ≤ 9223372036854775807) :
    Calls Try.prog 31 #[.pointer (some ⟨p, 0, none⟩), .agg #[.int .i64 x.op, .int .i64 x.n, .int .i64 x.fr, .int .i64 x.to, .slice ta x.terms.length tc, .int .i64 x.num]] W fun e W' => e = .returned (.int .i64 (partE l x)) ∧ Below W.heap.size W W' := by
  obtain ⟨op, n, fr, to, ts, num⟩ := x
  simp only at h hn hm
  have HB0 : Hid (Below W.heap.size W (W.alloc (.cells #[.int .i64 op, .int .i64 n, .int .i64 fr, .int .i64 to, .slice ta ts.length tc, .int .i64 num] 67))) := (Below.refl _ _).alloc (Nat.le_refl _) _
  by_cases h2 : op = 2
  · have HA := atom_any p l ta tc ts _ (hp.below HB0.out) hl (h.below HB0.out) (hn h2) hm
    subst h2
    have HE : Hid (partE l ⟨2, n, fr, to, ts, num⟩ = atomE l ts) := by simp [Hid, partE]
    clear hp h hn
    generalize atomE l ts = ae at *
    go_enter Try.func31, Try.ntmps31
    go_wp2_with fail
    refine Calls.mono HA ?_
    rintro e W3 ⟨rfl, hb3⟩
    have HB3 : Hid (Below W.heap.size W W3) := HB0.out.trans (hb3.mono HB0.out.size)
    clear hb3 HA
    go_wp2
    go_ret
    exact ⟨ret_int HE.out.symm, HB3.out⟩
  · clear hp h hn
    by_cases h3 : op = 8 ∨ op = 9 ∨ op = 10
    · have HE : Hid (partE l ⟨op, n, fr, to, ts, num⟩ = intervalE fr to) := by simp only [Hid, partE]; rw [if_neg h2, if_pos h3]
      have HI : Hid (∀ X, Calls Try.prog 50 #[.int .i64 fr, .int .i64 to] X fun e w' => e = .returned (.int .i64 (intervalE fr to)) ∧ w' = X) := fun X => interval_any fr to X
      clear h2
      generalize intervalE fr to = ae at *
      rcases h3 with rfl | rfl | rfl
      all_goals
        go_enter Try.func31, Try.ntmps31
        go_wp2_with (go_at_call 50; refine (HI.out _).mono ?_; rintro e w' ⟨rfl, hw9⟩; subst w')
        go_ret
        exact ⟨ret_int HE.out.symm, HB0.out⟩
    · have HE : Hid (partE l ⟨op, n, fr, to, ts, num⟩ = 0) := by simp only [Hid, partE]; rw [if_neg h2, if_neg h3]
      have k2 : (op == 2) = false := by simp; omega
      have k8 : (op == 8) = false := by simp; omega
      have k9 : (op == 9) = false := by simp; omega
      have k10 : (op == 10) = false := by simp; omega
      clear h2 h3
      go_enter Try.func31, Try.ntmps31
      go_wp2
      go_ret
      exact ⟨ret_int HE.out.symm, HB0.out⟩
end Go.Proofs.Ytjnnjjajlafchaa

namespace Go.Proofs.Ytjnnjjajlafchaa
open Go.RowKit
set_option linter.unusedVariables false
set_option maxRecDepth 100000

theorem Kept.mod {b : Nat} {x y : World} (h : Kept b x y) : Mod [b] x y := ⟨h.os, h.tape, h.output, h.size, fun k hk hs => h.block k hk (by simpa using hs)⟩
def sigOf (l : List Sig) (s : ByteArray) : Sig := l.getD (idxN l s) sig0
def timesS (l : List Sig) (t : Tm) : Int × Int := (crossLo (sigOf l t.name).lo (sigOf l t.name).hi t.times t.times, crossHi (sigOf l t.name).lo (sigOf l t.name).hi t.times t.times)
def timesO (l : List Sig) (t : Tm) : Bool := crossOv (sigOf l t.name).lo (sigOf l t.name).hi t.times t.times false || crossOv (sigOf l t.name).lo (sigOf l t.name).hi t.times t.times true
def sumLo (l : List Sig) (ts : List Tm) : Int := sumL ((ts.map (timesS l)).map Prod.fst)
def sumHi (l : List Sig) (ts : List Tm) : Int := sumL ((ts.map (timesS l)).map Prod.snd)
def sumO (l : List Sig) (ts : List Tm) : Bool := ts.any (timesO l) || (overF (sumLo l ts) || overF (sumHi l ts))
/-- What a sum tells. -/
def sumR (l : List Sig) (ts : List Tm) : Int × Int × Int := if sumO l ts then (0, 0, 10) else (clampF (sumLo l ts), clampF (sumHi l ts), 0)
def SigsFit (l : List Sig) : Prop := ∀ x ∈ l, x.lo ≤ x.hi ∧ B64 x.lo ∧ B64 x.hi
def TimesFit (ts : List Tm) : Prop := ∀ t ∈ ts, B64 t.times
def spanC (x : Int × Int) : List Value := [.int .i64 x.1, .int .i64 x.2]
theorem spanC_len (x : Int × Int) : (spanC x).length = 2 := rfl
theorem spanC_one (x : Int × Int) : ∀ u ∈ spanC x, u.oneCell' = true := by
  intro u hu
  simp only [spanC, List.mem_cons, List.not_mem_nil, or_false] at hu
  rcases hu with rfl | rfl <;> rfl
theorem infoSpan : (Try.prog.info? 25).map (fun i => (i.zero, i.size, i.bytes)) = some (some (.agg #[.int .i64 0, .int .i64 0]), 2, 16) := by kernel_rfl
def OSpan (W : World) (B : Nat) (v : Value) (l : List (Int × Int)) : Prop := Own spanC 25 2 W B v l
theorem OSpan.row {W : World} {B : Nat} {v : Value} {l : List (Int × Int)} (h : OSpan W B v l) : ∃ a cap, v = .slice a l.length cap ∧ SpanRow W a l ∧ ∀ x, a = some x → B ≤ x.block := by
  obtain ⟨a, cap, rfl, h1, h2, h3⟩ := Own.sl spanC_len (0, 0) h
  refine ⟨a, cap, rfl, fun i hi => ?_, fun x hx => ?_⟩
  · obtain ⟨g, rfl, _, _, hj⟩ := h3 i hi
    refine ⟨g, 0, rfl, ?_, ?_⟩
    · have := hj 0 (by omega); simpa [spanC] using this
    · have := hj 1 (by omega); simpa [spanC] using this
  · obtain ⟨g, rfl, hg, _⟩ := h2 x hx; exact hg
theorem any_take {X : Type} (q : X → Bool) (z : X) (l : List X) (k : Nat) (hk : k < l.length) : (l.take (k + 1)).any q = ((l.take k).any q || q (l.getD k z)) := by
  rw [List.take_succ_eq_append_getElem hk, List.any_append]
  simp [List.getD_eq_getElem?_getD, hk]
theorem map_takeS (l : List Sig) (ts : List Tm) (k : Nat) (hk : k < ts.length) : (ts.map (timesS l)).take (k + 1) = (ts.map (timesS l)).take k ++ [timesS l (ts.getD k tm0)] := by
  rw [List.take_succ_eq_append_getElem (by simpa using hk)]
  simp [List.getD_eq_getElem?_getD, hk]
theorem sigOf_fit {l : List Sig} (h : SigsFit l) {s : ByteArray} (hi : idxN l s < l.length) : (sigOf l s).lo ≤ (sigOf l s).hi ∧ B64 (sigOf l s).lo ∧ B64 (sigOf l s).hi := by
  refine h _ ?_
  unfold sigOf
  rw [List.getD_eq_getElem?_getD, List.getElem?_eq_getElem hi]; exact List.getElem_mem hi
theorem cross_b64 {a b c : Int} : B64 (crossLo a b c c) ∧ B64 (crossHi a b c c) := by
  have k := fun x => clampF_bd x
  unfold crossLo crossHi min4 max4 B64
  have k1 := k (mulF a c false); have k2 := k (mulF b c false); have k3 := k (mulF a c true); have k4 := k (mulF b c true)
  omega
theorem sums_fit {l : List Sig} {ts : List Tm} : FitsS (ts.map (timesS l)) := by
  constructor
  · intro x hx
    simp only [List.map_map, List.mem_map, Function.comp] at hx
    obtain ⟨t, _, rfl⟩ := hx
    exact cross_b64.1
  · intro x hx
    simp only [List.map_map, List.mem_map, Function.comp] at hx
    obtain ⟨t, _, rfl⟩ := hx
    exact cross_b64.2
theorem sums_some {l : List Sig} {ts : List Tm} (h : SigsFit l) (hi : ts.all (fun t => hasB l t.name) = true) : anyE (ts.map (timesS l)) = false := by
  unfold anyE
  rw [List.any_eq_false]
  intro x hx
  simp only [List.mem_map] at hx
  obtain ⟨t, ht, rfl⟩ := hx
  rw [List.all_eq_true] at hi
  have := cross_some (sigOf_fit h (hasB_lt (hi t ht))).1 (Int.le_refl t.times)
  have e : ¬ (timesS l t).2 < (timesS l t).1 := by show ¬ (crossHi _ _ _ _ < crossLo _ _ _ _); omega
  simpa using e
/-- What holds at the head of sum's loop. -/
structure SumInv (W W2 : World) (A : Nat) (l : List Sig) (ts : List Tm) (k : Nat) (v : Value) (wr : World) : Prop where
  live : Live W A wr ((ts.take k).any (timesO l))
  kept : Kept A W2 wr
  own : OSpan wr W2.heap.size v ((ts.map (timesS l)).take k)
theorem SumInv.stays {W W2 : World} {A : Nat} {l : List Sig} {ts : List Tm} {k : Nat} {v : Value} {wr wr' : World} (h : SumInv W W2 A l ts k v wr) (b : Below wr.heap.size wr wr') : SumInv W W2 A l ts k v wr' :=
  ⟨h.live.stays b, h.kept.below b, Own.below h.own b⟩
theorem sum_step {W W2 : World} {A : Nat} {l : List Sig} {ts : List Tm} {k : Nat} {v : Value} {wr W4 : World} (h : SumInv W W2 A l ts k v wr) (hA : A < W2.heap.size) (hk : k < ts.length) (hm : ts.length ≤ 100000)
    (hl4 : Live W A W4 ((ts.take k).any (timesO l) || timesO l (ts.getD k tm0))) (hk4 : Kept A wr W4) :
    ∃ a n c X, (Builtin.append_ #[100, 100] 100 #[v, .slice (some ⟨W4.heap.size, 0, none⟩) 1 1]).run Try.prog (W4.alloc (.cells #[.int .i64 (timesS l (ts.getD k tm0)).1, .int .i64 (timesS l (ts.getD k tm0)).2] 25)) = .ok (.slice a n c) X ∧ SumInv W W2 A l ts (k + 1) (.slice a n c) X := by
  obtain ⟨Y, hY⟩ : ∃ Y, W4.alloc (.cells #[.int .i64 (timesS l (ts.getD k tm0)).1, .int .i64 (timesS l (ts.getD k tm0)).2] 25) = Y := ⟨_, rfl⟩
  have hY4 : Mod [] W4 Y := by rw [← hY]; exact (Mod.refl _ _).alloc _
  have hnb : ∀ g, v.ownBlock = some g → g ∉ [A] := fun g hg => by have := (Own.lt h.own g hg).1; simp; omega
  have hoY : OSpan Y W2.heap.size v ((ts.map (timesS l)).take k) := (Own.mod h.own hk4.mod hnb).mod hY4 (by simp)
  have hsz : W2.heap.size ≤ Y.heap.size := by have := h.kept.size; have := hk4.size; have := hY4.size; omega
  obtain ⟨v', X, hr, ho, hg, hat⟩ := Own.append spanC_len spanC_one Try.underlying100 infoSpan rfl (by omega) Y W2.heap.size v _ hoY (timesS l (ts.getD k tm0)) W4.heap.size
    (by intro j hj; rw [← hY]; have : j = 0 ∨ j = 1 := by omega
        rcases this with rfl | rfl <;> simp [go_sem, spanC]) (by unfold maxLen; rw [List.length_take]; simp; omega) (by rw [List.length_take]; simp; omega) hsz
  obtain ⟨a, c, hv', _⟩ := Own.sl spanC_len (0, 0) ho
  subst hv'
  rw [hY]
  refine ⟨_, _, _, X, hr, ?_, ?_, ?_⟩
  · rw [any_take _ tm0 _ _ hk]
    have hlY : Live W A Y ((ts.take k).any (timesO l) || timesO l (ts.getD k tm0)) := by rw [← hY]; exact hl4.alloc _
    have m := Mod.grown hg
    have hnA : A ∉ v.ownBlock.toList := fun hh => by have := hnb A (by simpa using hh); simp at this
    refine ⟨m.cell hlY.cell hnA, (m.frozen hlY.old hnA).trans hlY.frz, hlY.new, Nat.lt_of_lt_of_le hlY.old m.size, ?_⟩
    exact hlY.below.trans (m.belowOf hlY.below.size fun g hg => by have := (Own.lt h.own g (by simpa using hg)).1; have := hlY.new; omega)
  · have s1 := h.kept.size
    have s2 := hk4.size
    have s3 := hY4.size
    refine ⟨hg.os.trans (hY4.os.trans (hk4.os.trans h.kept.os)), hg.tape.trans (hY4.tape.trans (hk4.tape.trans h.kept.tape)), hg.output.trans (hY4.output.trans (hk4.output.trans h.kept.output)), Nat.le_trans hsz hg.size, fun q hq hqA => ?_⟩
    refine (hg.block q (by omega) fun e => ?_).trans ((hY4.block q (by omega) (by simp)).trans ((hk4.block q (by omega) hqA).trans (h.kept.block q hq hqA)))
    have := (Own.lt h.own q e.symm).1
    omega
  · rw [map_takeS _ _ _ hk]; exact ho
set_option maxHeartbeats 8000000 in
theorem sum_any (p : Nat) (l : List Sig) (ta : Option Addr) (tc : Nat) (ts : List Tm) (W : World) (hp : NmAt W p l) (hl : l.length ≤ 1000000) (h : TermRow W ta ts) (hm : ts.length ≤ 100000) (hs : SigsFit l) (ht : TimesFit ts) (hi : ts.all (fun t => hasB l t.name) = true) :
    Calls Try.prog 29 #[.pointer (some ⟨p, 0, none⟩), .slice ta ts.length tc] W fun e W' => e = .returned (.tuple #[.agg #[.int .i64 (sumR l ts).1, .int .i64 (sumR l ts).2.1], .int .i64 (sumR l ts).2.2]) ∧ Below W.heap.size W W' := by
  have HP : Hid (∀ X, Below W.heap.size W X → NmAt X p l) := fun X hX => hp.below hX
  have HR : Hid (TermRow W ta ts) := h
  have HS : Hid (SigsFit l) := hs
  have HT : Hid (TimesFit ts) := ht
  have HI : Hid (ts.all (fun t => hasB l t.name) = true) := hi
  obtain ⟨W2, hW2⟩ : ∃ W2, (W.alloc (.cells #[.int .i64 0, .int .i64 0] 25)).alloc (.cells #[.bool false] 99) = W2 := ⟨_, rfl⟩
  have s2 : W2.heap.size = W.heap.size + 2 := by rw [← hW2]; simp
  have HI0 : Hid (SumInv W W2 (W.heap.size + 1) l ts 0 (.slice none 0 0) ((W.alloc (.cells #[.int .i64 0, .int .i64 0] 25)).alloc (.cells #[.bool false] 99))) := by
    refine ⟨⟨by simp [go_sem], by simp [go_sem], by omega, by simp, ?_⟩, by rw [hW2]; exact Kept.refl _ _, Own.nil _ _ _ _ _⟩
    exact ((Below.refl _ _).alloc (Nat.le_refl _) _).alloc (by simp) _
  have HC : Hid (∀ X, Kept (W.heap.size + 1) W2 X → X.cell? ⟨W.heap.size, 0, none⟩ = some (.int .i64 0) ∧ X.cell? ⟨W.heap.size, 1, none⟩ = some (.int .i64 0) ∧ X.frozen? ⟨W.heap.size, 0, none⟩ = false ∧ X.frozen? ⟨W.heap.size, 1, none⟩ = false) := by
    intro X hX
    have e0 : W2.cell? ⟨W.heap.size, 0, none⟩ = some (.int .i64 0) := by rw [← hW2]; simp [go_sem]
    have e1 : W2.cell? ⟨W.heap.size, 1, none⟩ = some (.int .i64 0) := by rw [← hW2]; simp [go_sem]
    have f0 : W2.frozen? ⟨W.heap.size, 0, none⟩ = false := by rw [← hW2]; simp [go_sem]
    have f1 : W2.frozen? ⟨W.heap.size, 1, none⟩ = false := by rw [← hW2]; simp [go_sem]
    exact ⟨hX.cell e0 (by omega), hX.cell e1 (by omega), (hX.frz (by omega) (by omega)).trans f0, (hX.frz (by omega) (by omega)).trans f1⟩
  have HAW : Hid (W.heap.size + 1 < W2.heap.size) := by show _ < _; omega
  clear hp h hs ht hi hW2 s2
  go_enter Try.func29, Try.ntmps29
  go_wp2
  go_loopw [7, 13] (fun v i wr => ∃ (k : Nat) (v0 : Value), k ≤ ts.length ∧ i = .int .i64 k ∧ v0 = v ∧ SumInv W W2 (W.heap.size + 1) l ts k v0 wr) (fun _ i _ => ts.length - (intOf i).toNat)
  case atStart => exact ⟨0, _, Nat.zero_le _, rfl, rfl, HI0.out⟩
  case round =>
    obtain ⟨k, v0, hk, rfl, rfl, hi⟩ := hrel
    have HV : Hid (SumInv W W2 (W.heap.size + 1) l ts k v0 wr) := hi
    have HB : Hid (Below W.heap.size W wr) := hi.live.below
    clear hi
    by_cases hlt : k < ts.length
    · obtain ⟨b, off, rfl, h0, h1⟩ := HR.out.below HB.out k hlt
      have hik := hasB_lt (allP_at (fun t => hasB l t.name) ts k hlt HI.out)
      have hfit := sigOf_fit HS.out hik
      have htt : B64 (ts.getD k tm0).times := HT.out _ (by rw [List.getD_eq_getElem?_getD, List.getElem?_eq_getElem hlt]; exact List.getElem_mem hlt)
      have HNm : Hid (∀ X, Below W.heap.size W X → Calls Try.prog 46 #[.pointer (some ⟨p, 0, none⟩), .string (ts.getD k tm0).name] X fun e W' => e = .returned (.agg #[.string (sigOf l (ts.getD k tm0).name).name, .string (sigOf l (ts.getD k tm0).name).unit, .int .i64 (sigOf l (ts.getD k tm0).name).lo, .int .i64 (sigOf l (ts.getD k tm0).name).hi]) ∧ Below X.heap.size X W') :=
        fun X hX => named_any p l _ X (HP.out X hX) hl hik
      have HTm : Hid (∀ X, SumInv W W2 (W.heap.size + 1) l ts k v0 X → Calls Try.prog 45 #[.pointer (some ⟨W.heap.size + 1, 0, none⟩), (.agg #[.int .i64 ((sigOf l (ts.getD k tm0).name).lo), .int .i64 ((sigOf l (ts.getD k tm0).name).hi)]), .int .i64 (ts.getD k tm0).times] X fun e X4 => e = .returned ((.agg #[.int .i64 ((timesS l (ts.getD k tm0)).1), .int .i64 ((timesS l (ts.getD k tm0)).2)])) ∧ Live W (W.heap.size + 1) X4 ((ts.take k).any (timesO l) || timesO l (ts.getD k tm0)) ∧ Kept (W.heap.size + 1) X X4) :=
        fun X hX => stimes_some hX.live _ _ _ hfit.1 hfit.2.1 hfit.2.2 htt
      have HAp : Hid (∀ X W4, SumInv W W2 (W.heap.size + 1) l ts k v0 X → Live W (W.heap.size + 1) W4 ((ts.take k).any (timesO l) || timesO l (ts.getD k tm0)) → Kept (W.heap.size + 1) X W4 → ∃ a n c Y, (Builtin.append_ #[100, 100] 100 #[v0, .slice (some ⟨W4.heap.size, 0, none⟩) 1 1]).run Try.prog (W4.alloc (.cells #[.int .i64 (timesS l (ts.getD k tm0)).1, .int .i64 (timesS l (ts.getD k tm0)).2] 25)) = .ok (.slice a n c) Y ∧ SumInv W W2 (W.heap.size + 1) l ts (k + 1) (.slice a n c) Y) :=
        fun X W4 hX h1 h2 => sum_step hX HAW.out hlt hm h1 h2
      clear hik hfit htt
      generalize sigOf l (ts.getD k tm0).name = s1 at *
      generalize (timesS l (ts.getD k tm0)).1 = t1 at *
      generalize (timesS l (ts.getD k tm0)).2 = t2 at *
      generalize timesO l (ts.getD k tm0) = to at *
      generalize (ts.getD k tm0).name = tn at *
      generalize (ts.getD k tm0).times = tt at *
      obtain ⟨xn, xu, xl, xh⟩ := s1
      simp only at HNm HTm
      have hfl := fld2 xn xu xl xh
      have HV1 : Hid (SumInv W W2 (W.heap.size + 1) l ts k v0 (wr.alloc (.cells #[.string tn, .int .i64 tt] 74)).drew) := HV.out.stays (((Below.refl _ _).alloc (Nat.le_refl _) _).drew)
      go_wp2_with fail
      refine wp_region_held_drew (S := fun _ => True) (by kernel_rfl) trivial (fun hHeld => ?_)
      refine wpAnyH_take (i := 0) (oi := { dst := some 17, op := Op.move (Operand.tmp 7), type := 100, pos := "check.go:75", after := #[], guard := none }) (v := ?_) rfl (by kernel_rfl) (by kernel_rfl) (by kernel_rfl) (fun _ _ _ h => h) (Or.inl ⟨by rfl, ?_⟩) hHeld ?_
      rotate_left
      · (intro w hSw; (try dsimp only at hSw); go_simp; all_goals (try with_reducible rfl))
      try simp only [Act.put, List.setIfInBounds_toArray, List.set_cons_zero, List.set_cons_succ]
      refine wpAnyH_take (i := 1) (oi := { dst := some 18, op := Op.move (Operand.tmp 0), type := 28, pos := "check.go:75", after := #[], guard := none }) (v := ?_) rfl (by kernel_rfl) (by kernel_rfl) (by kernel_rfl) (fun _ _ _ h => h) (Or.inl ⟨by rfl, ?_⟩) hHeld ?_
      rotate_left
      · (intro w hSw; (try dsimp only at hSw); go_simp; all_goals (try with_reducible rfl))
      try simp only [Act.put, List.setIfInBounds_toArray, List.set_cons_zero, List.set_cons_succ]
      refine wpAnyH_take (i := 2) (oi := { dst := some 19, op := Op.fieldAddr 74 (Operand.tmp 9) 0, type := 0, pos := "check.go:75", after := #[], guard := none }) (v := ?_) rfl (by kernel_rfl) (by kernel_rfl) (by kernel_rfl) (fun _ _ _ h => h) (Or.inl ⟨by rfl, ?_⟩) hHeld ?_
      rotate_left
      · (intro w hSw; (try dsimp only at hSw); go_simp; all_goals (try with_reducible rfl))
      try simp only [Act.put, List.setIfInBounds_toArray, List.set_cons_zero, List.set_cons_succ]
      refine wpAnyH_take (i := 6) (oi := { dst := some 23, op := Op.fieldAddr 74 (Operand.tmp 9) 1, type := 0, pos := "check.go:75", after := #[], guard := none }) (v := ?_) rfl (by kernel_rfl) (by kernel_rfl) (by kernel_rfl) (fun _ _ _ h => h) (Or.inl ⟨by rfl, ?_⟩) hHeld ?_
      rotate_left
      · (intro w hSw; (try dsimp only at hSw); go_simp; all_goals (try with_reducible rfl))
      try simp only [Act.put, List.setIfInBounds_toArray, List.set_cons_zero, List.set_cons_succ]
      refine wpAnyH_ready (rs := [3, 7]) (by kernel_rfl) (by simp) ?_
      refine AllReadyH.cons (o := { dst := some 20, op := Op.load 9 (Operand.tmp 19), type := 9, pos := "check.go:75", after := #[{ on := 2, ground := Ground.data }], guard := none }) rfl (fun K hK => ?_) ?_
      · skip
        go_simp
        refine hK.out _ _ trivial (fun hHeld => ?_)
        clear hK K
        try simp only [Act.put, List.setIfInBounds_toArray, List.set_cons_zero, List.set_cons_succ]
        refine wpAnyH_ready (rs := [4, 7]) (by kernel_rfl) (by simp) ?_
        refine AllReadyH.cons (o := { dst := some 21, op := Op.call { callee := Callee.value (Operand.func 46), args := #[Operand.tmp 18, Operand.tmp 20], argTypes := #[28, 9] }, type := 27, pos := "check.go:75", after := #[{ on := 1, ground := Ground.data }, { on := 3, ground := Ground.data }], guard := none }) rfl (fun K hK => ?_) ?_
        · skip
          go_simp
          refine Calls.mono (HNm.out _ HV1.out.live.below) ?_
          rintro e W3 ⟨rfl, hb3⟩
          have HV3 : Hid (SumInv W W2 (W.heap.size + 1) l ts k v0 W3) := HV1.out.stays hb3
          have q1 : W3.cell? ⟨wr.heap.size, 1, none⟩ = some (.int .i64 tt) := by rw [hb3.cell (p := ⟨wr.heap.size, 1, none⟩) (by simp)]; simp [go_sem]
          clear hb3
          go_wp2_with fail
          refine hK.out _ _ trivial (fun hHeld => ?_)
          clear hK K
          try simp only [Act.put, List.setIfInBounds_toArray, List.set_cons_zero, List.set_cons_succ]
          refine wpAnyH_take (i := 5) (oi := { dst := some 22, op := Op.field 27 (Operand.tmp 21) 2, type := 25, pos := "check.go:75", after := #[{ on := 4, ground := Ground.data }], guard := none }) (v := ?_) rfl (by kernel_rfl) (by kernel_rfl) (by kernel_rfl) (fun _ _ _ h => h) (Or.inl ⟨by rfl, ?_⟩) hHeld ?_
          rotate_left
          · (intro w hSw; (try dsimp only at hSw); go_simp; all_goals (try with_reducible rfl))
          try simp only [Act.put, List.setIfInBounds_toArray, List.set_cons_zero, List.set_cons_succ]
          refine wpAnyH_ready (rs := [7]) (by kernel_rfl) (by simp) ?_
          refine AllReadyH.cons (o := { dst := some 24, op := Op.load 3 (Operand.tmp 23), type := 3, pos := "check.go:75", after := #[{ on := 6, ground := Ground.data }], guard := none }) rfl (fun K hK => ?_) AllReadyH.nil
          go_simp
          refine hK.out _ _ trivial (fun hHeld => ?_)
          clear hK K
          try simp only [Act.put, List.setIfInBounds_toArray, List.set_cons_zero, List.set_cons_succ]
          refine wpAnyH_ready (rs := [8]) (by kernel_rfl) (by simp) ?_
          refine AllReadyH.cons (o := { dst := some 25, op := Op.call { callee := Callee.value (Operand.func 45), args := #[Operand.tmp 6, Operand.tmp 22, Operand.tmp 24], argTypes := #[99, 25, 3] }, type := 25, pos := "check.go:75", after := #[{ on := 5, ground := Ground.data }, { on := 7, ground := Ground.data }, { on := 4, ground := Ground.chain }], guard := none }) rfl (fun K hK => ?_) AllReadyH.nil
          go_simp
          refine Calls.mono (HTm.out _ HV3.out) ?_
          rintro e W4 ⟨rfl, hl4, hk4⟩
          have HL4 : Hid (Live W (W.heap.size + 1) W4 ((ts.take k).any (timesO l) || to) ∧ Kept (W.heap.size + 1) W3 W4) := ⟨hl4, hk4⟩
          clear hl4 hk4
          go_wp2_with fail
          refine hK.out _ _ trivial (fun hHeld => ?_)
          clear hK K
          try simp only [Act.put, List.setIfInBounds_toArray, List.set_cons_zero, List.set_cons_succ]
          refine wpAnyH_ready (rs := [9]) (by kernel_rfl) (by simp) ?_
          refine AllReadyH.cons (o := { dst := some 26, op := Op.buildSlice 100 1 #[(0, Operand.tmp 25)], type := 100, pos := "check.go:75", after := #[{ on := 8, ground := Ground.data }], guard := none }) rfl (fun K hK => ?_) AllReadyH.nil
          go_simp
          refine hK.out _ _ trivial (fun hHeld => ?_)
          clear hK K
          try simp only [Act.put, List.setIfInBounds_toArray, List.set_cons_zero, List.set_cons_succ]
          refine wpAnyH_ready (rs := [10]) (by kernel_rfl) (by simp) ?_
          refine AllReadyH.cons (o := { dst := some 27, op := Op.call { callee := Callee.builtin Builtin.append, args := #[Operand.tmp 17, Operand.tmp 26], argTypes := #[100, 100] }, type := 100, pos := "check.go:75", after := #[{ on := 0, ground := Ground.data }, { on := 9, ground := Ground.data }, { on := 8, ground := Ground.chain }], guard := none }) rfl (fun K hK => ?_) AllReadyH.nil
          obtain ⟨a9, n9, c9, Y, hr, hY⟩ := HAp.out W3 W4 HV3.out HL4.out.1 HL4.out.2
          have HY : Hid (SumInv W W2 (W.heap.size + 1) l ts (k + 1) (.slice a9 n9 c9) Y) := hY
          clear hY
          refine append_stepO (by rfl) _ _ (by rfl) (by rfl) _ _ _ _ (by rfl) (by rfl) hr ?_
          clear hr
          refine hK.out _ _ trivial (fun hHeld => ?_)
          clear hK K
          try simp only [Act.put, List.setIfInBounds_toArray, List.set_cons_zero, List.set_cons_succ]
          refine wpAnyH_take (i := 11) (oi := { dst := some 7, op := Op.assign (Operand.tmp 27), type := 100, pos := "check.go:75", after := #[{ on := 10, ground := Ground.data }, { on := 10, ground := Ground.chain }, { on := 0, ground := Ground.phase }, { on := 1, ground := Ground.phase }, { on := 2, ground := Ground.phase }, { on := 3, ground := Ground.phase }, { on := 4, ground := Ground.phase }, { on := 5, ground := Ground.phase }, { on := 6, ground := Ground.phase }, { on := 7, ground := Ground.phase }, { on := 8, ground := Ground.phase }, { on := 9, ground := Ground.phase }, { on := 10, ground := Ground.phase }], guard := none }) (v := ?_) rfl (by kernel_rfl) (by kernel_rfl) (by kernel_rfl) (fun _ _ _ h => h) (Or.inl ⟨by rfl, ?_⟩) hHeld ?_
          rotate_left
          · (intro w hSw; (try dsimp only at hSw); go_simp; all_goals (try with_reducible rfl))
          try simp only [Act.put, List.setIfInBounds_toArray, List.set_cons_zero, List.set_cons_succ]
          refine wpAnyH_done (by kernel_rfl) ?_ _
          go_wp2
          go_roundw
          case rel => exact ⟨k + 1, _, by omega, by go_num, rfl, HY.out⟩
          case measure => simp [intOf]; omega
        refine AllReadyH.cons (o := { dst := some 24, op := Op.load 3 (Operand.tmp 23), type := 3, pos := "check.go:75", after := #[{ on := 6, ground := Ground.data }], guard := none }) rfl (fun K hK => ?_) AllReadyH.nil
        go_simp
        refine hK.out _ _ trivial (fun hHeld => ?_)
        clear hK K
        try simp only [Act.put, List.setIfInBounds_toArray, List.set_cons_zero, List.set_cons_succ]
        refine wpAnyH_ready (rs := [4]) (by kernel_rfl) (by simp) ?_
        refine AllReadyH.cons (o := { dst := some 21, op := Op.call { callee := Callee.value (Operand.func 46), args := #[Operand.tmp 18, Operand.tmp 20], argTypes := #[28, 9] }, type := 27, pos := "check.go:75", after := #[{ on := 1, ground := Ground.data }, { on := 3, ground := Ground.data }], guard := none }) rfl (fun K hK => ?_) AllReadyH.nil
        go_simp
        refine Calls.mono (HNm.out _ HV1.out.live.below) ?_
        rintro e W3 ⟨rfl, hb3⟩
        have HV3 : Hid (SumInv W W2 (W.heap.size + 1) l ts k v0 W3) := HV1.out.stays hb3
        have q1 : W3.cell? ⟨wr.heap.size, 1, none⟩ = some (.int .i64 tt) := by rw [hb3.cell (p := ⟨wr.heap.size, 1, none⟩) (by simp)]; simp [go_sem]
        clear hb3
        go_wp2_with fail
        refine hK.out _ _ trivial (fun hHeld => ?_)
        clear hK K
        try simp only [Act.put, List.setIfInBounds_toArray, List.set_cons_zero, List.set_cons_succ]
        refine wpAnyH_take (i := 5) (oi := { dst := some 22, op := Op.field 27 (Operand.tmp 21) 2, type := 25, pos := "check.go:75", after := #[{ on := 4, ground := Ground.data }], guard := none }) (v := ?_) rfl (by kernel_rfl) (by kernel_rfl) (by kernel_rfl) (fun _ _ _ h => h) (Or.inl ⟨by rfl, ?_⟩) hHeld ?_
        rotate_left
        · (intro w hSw; (try dsimp only at hSw); go_simp; all_goals (try with_reducible rfl))
        try simp only [Act.put, List.setIfInBounds_toArray, List.set_cons_zero, List.set_cons_succ]
        refine wpAnyH_ready (rs := [8]) (by kernel_rfl) (by simp) ?_
        refine AllReadyH.cons (o := { dst := some 25, op := Op.call { callee := Callee.value (Operand.func 45), args := #[Operand.tmp 6, Operand.tmp 22, Operand.tmp 24], argTypes := #[99, 25, 3] }, type := 25, pos := "check.go:75", after := #[{ on := 5, ground := Ground.data }, { on := 7, ground := Ground.data }, { on := 4, ground := Ground.chain }], guard := none }) rfl (fun K hK => ?_) AllReadyH.nil
        go_simp
        refine Calls.mono (HTm.out _ HV3.out) ?_
        rintro e W4 ⟨rfl, hl4, hk4⟩
        have HL4 : Hid (Live W (W.heap.size + 1) W4 ((ts.take k).any (timesO l) || to) ∧ Kept (W.heap.size + 1) W3 W4) := ⟨hl4, hk4⟩
        clear hl4 hk4
        go_wp2_with fail
        refine hK.out _ _ trivial (fun hHeld => ?_)
        clear hK K
        try simp only [Act.put, List.setIfInBounds_toArray, List.set_cons_zero, List.set_cons_succ]
        refine wpAnyH_ready (rs := [9]) (by kernel_rfl) (by simp) ?_
        refine AllReadyH.cons (o := { dst := some 26, op := Op.buildSlice 100 1 #[(0, Operand.tmp 25)], type := 100, pos := "check.go:75", after := #[{ on := 8, ground := Ground.data }], guard := none }) rfl (fun K hK => ?_) AllReadyH.nil
        go_simp
        refine hK.out _ _ trivial (fun hHeld => ?_)
        clear hK K
        try simp only [Act.put, List.setIfInBounds_toArray, List.set_cons_zero, List.set_cons_succ]
        refine wpAnyH_ready (rs := [10]) (by kernel_rfl) (by simp) ?_
        refine AllReadyH.cons (o := { dst := some 27, op := Op.call { callee := Callee.builtin Builtin.append, args := #[Operand.tmp 17, Operand.tmp 26], argTypes := #[100, 100] }, type := 100, pos := "check.go:75", after := #[{ on := 0, ground := Ground.data }, { on := 9, ground := Ground.data }, { on := 8, ground := Ground.chain }], guard := none }) rfl (fun K hK => ?_) AllReadyH.nil
        obtain ⟨a9, n9, c9, Y, hr, hY⟩ := HAp.out W3 W4 HV3.out HL4.out.1 HL4.out.2
        have HY : Hid (SumInv W W2 (W.heap.size + 1) l ts (k + 1) (.slice a9 n9 c9) Y) := hY
        clear hY
        refine append_stepO (by rfl) _ _ (by rfl) (by rfl) _ _ _ _ (by rfl) (by rfl) hr ?_
        clear hr
        refine hK.out _ _ trivial (fun hHeld => ?_)
        clear hK K
        try simp only [Act.put, List.setIfInBounds_toArray, List.set_cons_zero, List.set_cons_succ]
        refine wpAnyH_take (i := 11) (oi := { dst := some 7, op := Op.assign (Operand.tmp 27), type := 100, pos := "check.go:75", after := #[{ on := 10, ground := Ground.data }, { on := 10, ground := Ground.chain }, { on := 0, ground := Ground.phase }, { on := 1, ground := Ground.phase }, { on := 2, ground := Ground.phase }, { on := 3, ground := Ground.phase }, { on := 4, ground := Ground.phase }, { on := 5, ground := Ground.phase }, { on := 6, ground := Ground.phase }, { on := 7, ground := Ground.phase }, { on := 8, ground := Ground.phase }, { on := 9, ground := Ground.phase }, { on := 10, ground := Ground.phase }], guard := none }) (v := ?_) rfl (by kernel_rfl) (by kernel_rfl) (by kernel_rfl) (fun _ _ _ h => h) (Or.inl ⟨by rfl, ?_⟩) hHeld ?_
        rotate_left
        · (intro w hSw; (try dsimp only at hSw); go_simp; all_goals (try with_reducible rfl))
        try simp only [Act.put, List.setIfInBounds_toArray, List.set_cons_zero, List.set_cons_succ]
        refine wpAnyH_done (by kernel_rfl) ?_ _
        go_wp2
        go_roundw
        case rel => exact ⟨k + 1, _, by omega, by go_num, rfl, HY.out⟩
        case measure => simp [intOf]; omega
      refine AllReadyH.cons (o := { dst := some 24, op := Op.load 3 (Operand.tmp 23), type := 3, pos := "check.go:75", after := #[{ on := 6, ground := Ground.data }], guard := none }) rfl (fun K hK => ?_) AllReadyH.nil
      go_simp
      refine hK.out _ _ trivial (fun hHeld => ?_)
      clear hK K
      try simp only [Act.put, List.setIfInBounds_toArray, List.set_cons_zero, List.set_cons_succ]
      refine wpAnyH_ready (rs := [3]) (by kernel_rfl) (by simp) ?_
      refine AllReadyH.cons (o := { dst := some 20, op := Op.load 9 (Operand.tmp 19), type := 9, pos := "check.go:75", after := #[{ on := 2, ground := Ground.data }], guard := none }) rfl (fun K hK => ?_) AllReadyH.nil
      go_simp
      refine hK.out _ _ trivial (fun hHeld => ?_)
      clear hK K
      try simp only [Act.put, List.setIfInBounds_toArray, List.set_cons_zero, List.set_cons_succ]
      refine wpAnyH_ready (rs := [4]) (by kernel_rfl) (by simp) ?_
      refine AllReadyH.cons (o := { dst := some 21, op := Op.call { callee := Callee.value (Operand.func 46), args := #[Operand.tmp 18, Operand.tmp 20], argTypes := #[28, 9] }, type := 27, pos := "check.go:75", after := #[{ on := 1, ground := Ground.data }, { on := 3, ground := Ground.data }], guard := none }) rfl (fun K hK => ?_) AllReadyH.nil
      go_simp
      refine Calls.mono (HNm.out _ HV1.out.live.below) ?_
      rintro e W3 ⟨rfl, hb3⟩
      have HV3 : Hid (SumInv W W2 (W.heap.size + 1) l ts k v0 W3) := HV1.out.stays hb3
      have q1 : W3.cell? ⟨wr.heap.size, 1, none⟩ = some (.int .i64 tt) := by rw [hb3.cell (p := ⟨wr.heap.size, 1, none⟩) (by simp)]; simp [go_sem]
      clear hb3
      go_wp2_with fail
      refine hK.out _ _ trivial (fun hHeld => ?_)
      clear hK K
      try simp only [Act.put, List.setIfInBounds_toArray, List.set_cons_zero, List.set_cons_succ]
      refine wpAnyH_take (i := 5) (oi := { dst := some 22, op := Op.field 27 (Operand.tmp 21) 2, type := 25, pos := "check.go:75", after := #[{ on := 4, ground := Ground.data }], guard := none }) (v := ?_) rfl (by kernel_rfl) (by kernel_rfl) (by kernel_rfl) (fun _ _ _ h => h) (Or.inl ⟨by rfl, ?_⟩) hHeld ?_
      rotate_left
      · (intro w hSw; (try dsimp only at hSw); go_simp; all_goals (try with_reducible rfl))
      try simp only [Act.put, List.setIfInBounds_toArray, List.set_cons_zero, List.set_cons_succ]
      refine wpAnyH_ready (rs := [8]) (by kernel_rfl) (by simp) ?_
      refine AllReadyH.cons (o := { dst := some 25, op := Op.call { callee := Callee.value (Operand.func 45), args := #[Operand.tmp 6, Operand.tmp 22, Operand.tmp 24], argTypes := #[99, 25, 3] }, type := 25, pos := "check.go:75", after := #[{ on := 5, ground := Ground.data }, { on := 7, ground := Ground.data }, { on := 4, ground := Ground.chain }], guard := none }) rfl (fun K hK => ?_) AllReadyH.nil
      go_simp
      refine Calls.mono (HTm.out _ HV3.out) ?_
      rintro e W4 ⟨rfl, hl4, hk4⟩
      have HL4 : Hid (Live W (W.heap.size + 1) W4 ((ts.take k).any (timesO l) || to) ∧ Kept (W.heap.size + 1) W3 W4) := ⟨hl4, hk4⟩
      clear hl4 hk4
      go_wp2_with fail
      refine hK.out _ _ trivial (fun hHeld => ?_)
      clear hK K
      try simp only [Act.put, List.setIfInBounds_toArray, List.set_cons_zero, List.set_cons_succ]
      refine wpAnyH_ready (rs := [9]) (by kernel_rfl) (by simp) ?_
      refine AllReadyH.cons (o := { dst := some 26, op := Op.buildSlice 100 1 #[(0, Operand.tmp 25)], type := 100, pos := "check.go:75", after := #[{ on := 8, ground := Ground.data }], guard := none }) rfl (fun K hK => ?_) AllReadyH.nil
      go_simp
      refine hK.out _ _ trivial (fun hHeld => ?_)
      clear hK K
      try simp only [Act.put, List.setIfInBounds_toArray, List.set_cons_zero, List.set_cons_succ]
      refine wpAnyH_ready (rs := [10]) (by kernel_rfl) (by simp) ?_
      refine AllReadyH.cons (o := { dst := some 27, op := Op.call { callee := Callee.builtin Builtin.append, args := #[Operand.tmp 17, Operand.tmp 26], argTypes := #[100, 100] }, type := 100, pos := "check.go:75", after := #[{ on := 0, ground := Ground.data }, { on := 9, ground := Ground.data }, { on := 8, ground := Ground.chain }], guard := none }) rfl (fun K hK => ?_) AllReadyH.nil
      obtain ⟨a9, n9, c9, Y, hr, hY⟩ := HAp.out W3 W4 HV3.out HL4.out.1 HL4.out.2
      have HY : Hid (SumInv W W2 (W.heap.size + 1) l ts (k + 1) (.slice a9 n9 c9) Y) := hY
      clear hY
      refine append_stepO (by rfl) _ _ (by rfl) (by rfl) _ _ _ _ (by rfl) (by rfl) hr ?_
      clear hr
      refine hK.out _ _ trivial (fun hHeld => ?_)
      clear hK K
      try simp only [Act.put, List.setIfInBounds_toArray, List.set_cons_zero, List.set_cons_succ]
      refine wpAnyH_take (i := 11) (oi := { dst := some 7, op := Op.assign (Operand.tmp 27), type := 100, pos := "check.go:75", after := #[{ on := 10, ground := Ground.data }, { on := 10, ground := Ground.chain }, { on := 0, ground := Ground.phase }, { on := 1, ground := Ground.phase }, { on := 2, ground := Ground.phase }, { on := 3, ground := Ground.phase }, { on := 4, ground := Ground.phase }, { on := 5, ground := Ground.phase }, { on := 6, ground := Ground.phase }, { on := 7, ground := Ground.phase }, { on := 8, ground := Ground.phase }, { on := 9, ground := Ground.phase }, { on := 10, ground := Ground.phase }], guard := none }) (v := ?_) rfl (by kernel_rfl) (by kernel_rfl) (by kernel_rfl) (fun _ _ _ h => h) (Or.inl ⟨by rfl, ?_⟩) hHeld ?_
      rotate_left
      · (intro w hSw; (try dsimp only at hSw); go_simp; all_goals (try with_reducible rfl))
      try simp only [Act.put, List.setIfInBounds_toArray, List.set_cons_zero, List.set_cons_succ]
      refine wpAnyH_done (by kernel_rfl) ?_ _
      go_wp2
      go_roundw
      case rel => exact ⟨k + 1, _, by omega, by go_num, rfl, HY.out⟩
      case measure => simp [intOf]; omega
    · have hkk : k = ts.length := by omega
      have HL : Hid (Live W (W.heap.size + 1) wr (ts.any (timesO l))) := by have := HV.out.live; rw [hkk, List.take_length] at this; exact this
      have ho : OSpan wr W2.heap.size v0 (ts.map (timesS l)) := by have := HV.out.own; rw [hkk, ← List.length_map (f := timesS l), List.take_length] at this; exact this
      obtain ⟨a, cap, rfl, hrow, hne⟩ := ho.row
      have HPl := splus_some HL.out a (ts.map (timesS l)) cap hrow (fun x hx => by have := hne x hx; have := HAW.out; omega) sums_fit (by rw [List.length_map]; omega) (sums_some HS.out HI.out)
      have HE : Hid (∀ b, sumO l ts = b → sumR l ts = if b then (0, 0, 10) else (clampF (sumLo l ts), clampF (sumHi l ts), 0)) := fun b hb => by unfold sumR; rw [hb]
      have HO : Hid ((ts.any (timesO l) || (overF (sumLo l ts) || overF (sumHi l ts))) = sumO l ts) := rfl
      have HK : Hid (Kept (W.heap.size + 1) W2 wr) := HV.out.kept
      have hlen : (ts.map (timesS l)).length = ts.length := by simp
      rw [hlen] at HPl ⊢
      clear hrow hne hkk ho hlen
      have HPl2 : Hid (Calls Try.prog 47 #[.pointer (some ⟨W.heap.size + 1, 0, none⟩), .slice a ts.length cap] wr (SpanSays W (W.heap.size + 1) (ts.any (timesO l)) wr (clampF (sumLo l ts)) (clampF (sumHi l ts)) (overF (sumLo l ts) || overF (sumHi l ts)))) := HPl
      clear HPl
      generalize clampF (sumLo l ts) = slo at *
      generalize clampF (sumHi l ts) = shi at *
      go_wp2_with fail
      refine Calls.mono HPl2.out ?_
      rintro e W5 ⟨rfl, hl5, hk5⟩
      rw [HO.out] at hl5
      have c5 := hl5.cell
      obtain ⟨r0, r1, f0, f1⟩ := HC.out W5 (HK.out.trans hk5)
      have HB5 : Hid (Below W.heap.size W W5) := hl5.below
      have hlt5 := hl5.old
      have hlt6 : W.heap.size < W5.heap.size := by omega
      clear hl5 hk5
      cases hb : sumO l ts with
      | true =>
        have HE1 := HE.out _ hb
        rw [hb] at c5
        clear hb HO
        go_wp2
        refine bodyPost_ret (v := .tuple #[.agg #[.int .i64 0, .int .i64 0], .int .i64 10]) (by simp [results, Try.results29, go_sem, cell_alloc_lt, r0, r1, hlt6]) rfl ⟨by rw [HE1]; rfl, ?_⟩
        exact (below_set (below_set HB5.out _ _ _ (Nat.le_refl _)) _ _ _ (Nat.le_refl _)).alloc (by simp; omega) _
      | false =>
        have HE1 := HE.out _ hb
        rw [hb] at c5
        clear hb HO
        go_wp2
        refine bodyPost_ret (v := .tuple #[.agg #[.int .i64 slo, .int .i64 shi], .int .i64 0]) (by simp [results, Try.results29, go_sem, cell_alloc_lt, r0, r1, hlt6]) rfl ⟨by rw [HE1]; rfl, ?_⟩
        exact (below_set (below_set HB5.out _ _ _ (Nat.le_refl _)) _ _ _ (Nat.le_refl _)).alloc (by simp; omega) _
end Go.Proofs.Ytjnnjjajlafchaa
