/- The contracts of kinds' all, Len, Find, has, Signal, named. Conditions: at most 1000000 signals. -/
import Derived.Test.YtjnnjjajlafchaaKnB
import Derived.Test.YtjnnjjajlafchaaOwn
namespace Go.Proofs.Ytjnnjjajlafchaa
open Go.RowKit
set_option linter.unusedVariables false
set_option maxRecDepth 100000

/-- Names at p that have these signals. -/
def NmAt (W : World) (p : Nat) (l : List Sig) : Prop := ∃ a cap, W.cell? ⟨p, 0, none⟩ = some (.slice a l.length cap) ∧ SigRow W a l
theorem NmAt.below {W W' : World} {p : Nat} {l : List Sig} (h : NmAt W p l) (k : Below W.heap.size W W') : NmAt W' p l := by
  obtain ⟨a, cap, hc, hr⟩ := h
  refine ⟨a, cap, ?_, hr.below k⟩
  rw [k.cell (p := ⟨p, 0, none⟩) (World.block_lt_of_cell? W _ hc)]; exact hc
set_option maxHeartbeats 400000 in
theorem all_any (p : Nat) (v : Value) (W : World) (h : W.cell? ⟨p, 0, none⟩ = some v) :
    Calls Try.prog 27 #[.pointer (some ⟨p, 0, none⟩)] W fun e W' => e = .returned v ∧ W' = W := by
  go_enter Try.func27, Try.ntmps27
  go_wp2
  go_ret
  exact ⟨rfl, rfl⟩
set_option maxHeartbeats 400000 in
theorem all_nil (W : World) :
    Calls Try.prog 27 #[.pointer none] W fun e W' => e = .returned (.slice none 0 0) ∧ W' = W := by
  go_enter Try.func27, Try.ntmps27
  go_wp2
  go_ret
  exact ⟨rfl, rfl⟩
set_option maxHeartbeats 400000 in
theorem len_any (p : Nat) (a : Option Addr) (n cap : Nat) (W : World) (h : W.cell? ⟨p, 0, none⟩ = some (.slice a n cap)) :
    Calls Try.prog 14 #[.pointer (some ⟨p, 0, none⟩)] W fun e W' => e = .returned (.int .i64 n) ∧ W' = W := by
  go_enter Try.func14, Try.ntmps14
  go_wp2_with (go_at_call 27; refine (all_any p _ _ h).mono ?_; rintro e w' ⟨rfl, rfl⟩)
  go_ret
  exact ⟨rfl, rfl⟩
set_option maxHeartbeats 400000 in
theorem len_nil (W : World) :
    Calls Try.prog 14 #[.pointer none] W fun e W' => e = .returned (.int .i64 0) ∧ W' = W := by
  go_enter Try.func14, Try.ntmps14
  go_wp2_with (go_at_call 27; refine (all_nil _).mono ?_; rintro e w' ⟨rfl, rfl⟩)
  go_ret
  exact ⟨rfl, rfl⟩

/-- What Find tells. -/
def FindSays (l : List Sig) (s : ByteArray) (e : Ending) : Prop := e = .returned (.tuple #[.int .i64 (if idxN l s < l.length then (idxN l s : Int) else 0), .int .i64 (if idxN l s < l.length then 0 else 40)])
set_option maxHeartbeats 1000000 in
theorem find_yes (p : Nat) (l : List Sig) (s : ByteArray) (W : World) (h : NmAt W p l) (hl : l.length ≤ 1000000) (hi : idxN l s < l.length) :
    Calls Try.prog 12 #[.pointer (some ⟨p, 0, none⟩), .string s] W fun e W' => e = .returned (.tuple #[.int .i64 (idxN l s), .int .i64 0]) ∧ Below W.heap.size W W' := by
  have hlt : p < W.heap.size := by obtain ⟨a, cap, hc, _⟩ := h; exact World.block_lt_of_cell? W _ hc
  have hb0 : Below W.heap.size W (W.alloc (.cells #[.string s] 9)) := (Below.refl _ _).alloc (Nat.le_refl _) _
  obtain ⟨a, cap, hc, hr⟩ := h.below hb0
  have HB0 : Hid (Below W.heap.size W (W.alloc (.cells #[.string s] 9))) := hb0
  have HI := indexSig_any a cap l W.heap.size s _ hr (by simp [go_sem]) (by omega)
  have HE : idxI l s = idxN l s := by unfold idxI; rw [if_pos hi]
  rw [HE] at HI
  clear HE
  generalize idxN l s = n at *
  have HH : Hid (Calls Try.prog 26 #[.slice a l.length cap, .func (.func 28) #[] #[.pointer (some ⟨W.heap.size, 0, none⟩)]] (W.alloc (.cells #[.string s] 9)) fun e W' => e = .returned (.int .i64 n) ∧ Below (W.alloc (.cells #[.string s] 9)).heap.size (W.alloc (.cells #[.string s] 9)) W') := HI
  have HC : Hid ((W.alloc (.cells #[.string s] 9)).cell? ⟨p, 0, none⟩ = some (.slice a l.length cap)) := hc
  clear hb0 hr HI hc h
  go_enter Try.func12, Try.ntmps12
  go_wp2_with (first
    | (go_at_call 27; refine (all_any p _ _ HC.out).mono ?_; rintro e w' ⟨rfl, rfl⟩)
    | (go_at_call 26; refine HH.out.mono ?_; rintro e w' ⟨rfl, hw⟩))
  go_ret2
  exact ⟨rfl, HB0.out.trans (hw.mono HB0.out.size)⟩
set_option maxHeartbeats 1000000 in
theorem find_no (p : Nat) (l : List Sig) (s : ByteArray) (W : World) (h : NmAt W p l) (hl : l.length ≤ 1000000) (hi : ¬ idxN l s < l.length) :
    Calls Try.prog 12 #[.pointer (some ⟨p, 0, none⟩), .string s] W fun e W' => e = .returned (.tuple #[.int .i64 0, .int .i64 40]) ∧ Below W.heap.size W W' := by
  have hlt : p < W.heap.size := by obtain ⟨a, cap, hc, _⟩ := h; exact World.block_lt_of_cell? W _ hc
  have hb0 : Below W.heap.size W (W.alloc (.cells #[.string s] 9)) := (Below.refl _ _).alloc (Nat.le_refl _) _
  obtain ⟨a, cap, hc, hr⟩ := h.below hb0
  have HB0 : Hid (Below W.heap.size W (W.alloc (.cells #[.string s] 9))) := hb0
  have HI := indexSig_any a cap l W.heap.size s _ hr (by simp [go_sem]) (by omega)
  have HE : idxI l s = -1 := by unfold idxI; rw [if_neg hi]
  rw [HE] at HI
  clear HE hi
  have HH : Hid (Calls Try.prog 26 #[.slice a l.length cap, .func (.func 28) #[] #[.pointer (some ⟨W.heap.size, 0, none⟩)]] (W.alloc (.cells #[.string s] 9)) fun e W' => e = .returned (.int .i64 (-1)) ∧ Below (W.alloc (.cells #[.string s] 9)).heap.size (W.alloc (.cells #[.string s] 9)) W') := HI
  have HC : Hid ((W.alloc (.cells #[.string s] 9)).cell? ⟨p, 0, none⟩ = some (.slice a l.length cap)) := hc
  clear hb0 hr HI hc h
  go_enter Try.func12, Try.ntmps12
  go_wp2_with (first
    | (go_at_call 27; refine (all_any p _ _ HC.out).mono ?_; rintro e w' ⟨rfl, rfl⟩)
    | (go_at_call 26; refine HH.out.mono ?_; rintro e w' ⟨rfl, hw⟩))
  go_ret2
  exact ⟨rfl, HB0.out.trans (hw.mono HB0.out.size)⟩
set_option maxHeartbeats 1000000 in
theorem find_nil (s : ByteArray) (W : World) :
    Calls Try.prog 12 #[.pointer none, .string s] W fun e W' => e = .returned (.tuple #[.int .i64 0, .int .i64 40]) ∧ Below W.heap.size W W' := by
  have hb0 : Below W.heap.size W (W.alloc (.cells #[.string s] 9)) := (Below.refl _ _).alloc (Nat.le_refl _) _
  have HB0 : Hid (Below W.heap.size W (W.alloc (.cells #[.string s] 9))) := hb0
  have HI := indexSig_any none 0 [] W.heap.size s (W.alloc (.cells #[.string s] 9)) (fun i hi => by simp at hi) (by simp [go_sem]) (by simp)
  have HE : idxI [] s = -1 := by simp [idxI]
  rw [HE] at HI
  clear HE
  have HH : Hid (Calls Try.prog 26 #[.slice none 0 0, .func (.func 28) #[] #[.pointer (some ⟨W.heap.size, 0, none⟩)]] (W.alloc (.cells #[.string s] 9)) fun e W' => e = .returned (.int .i64 (-1)) ∧ Below (W.alloc (.cells #[.string s] 9)).heap.size (W.alloc (.cells #[.string s] 9)) W') := HI
  clear hb0 HI
  go_enter Try.func12, Try.ntmps12
  go_wp2_with (first
    | (go_at_call 27; refine (all_nil _).mono ?_; rintro e w' ⟨rfl, rfl⟩)
    | (go_at_call 26; refine HH.out.mono ?_; rintro e w' ⟨rfl, hw⟩))
  go_ret2
  exact ⟨rfl, HB0.out.trans (hw.mono HB0.out.size)⟩
def hasB (l : List Sig) (s : ByteArray) : Bool := decide (idxN l s < l.length)
set_option maxHeartbeats 400000 in
theorem has_any (p : Nat) (l : List Sig) (s : ByteArray) (W : World) (h : NmAt W p l) (hl : l.length ≤ 1000000) :
    Calls Try.prog 40 #[.pointer (some ⟨p, 0, none⟩), .string s] W fun e W' => e = .returned (.bool (hasB l s)) ∧ Below W.heap.size W W' := by
  by_cases hi : idxN l s < l.length
  · have hf := find_yes p l s W h hl hi
    have HE : Hid (hasB l s = true) := by simp [Hid, hasB, hi]
    clear hi
    go_enter Try.func40, Try.ntmps40
    go_wp2_with (go_at_call 12; refine hf.mono ?_; rintro e w' ⟨rfl, hw⟩)
    go_ret
    exact ⟨ret_bool HE.out.symm, hw⟩
  · have hf := find_no p l s W h hl hi
    have HE : Hid (hasB l s = false) := by simp only [Hid, hasB]; simpa using hi
    clear hi
    go_enter Try.func40, Try.ntmps40
    go_wp2_with (go_at_call 12; refine hf.mono ?_; rintro e w' ⟨rfl, hw⟩)
    go_ret
    exact ⟨ret_bool HE.out.symm, hw⟩
def sigV (x : Sig) : Value := .agg #[.string x.name, .string x.unit, .int .i64 x.lo, .int .i64 x.hi]
set_option maxHeartbeats 400000 in
theorem signal_in (p : Nat) (l : List Sig) (k : Nat) (W : World) (h : NmAt W p l) (hl : l.length ≤ 1000000) (hk : k < l.length) :
    Calls Try.prog 15 #[.pointer (some ⟨p, 0, none⟩), .int .i64 k] W fun e W' => e = .returned (.tuple #[.agg #[.string (l.getD k sig0).name, .string (l.getD k sig0).unit, .int .i64 (l.getD k sig0).lo, .int .i64 (l.getD k sig0).hi], .int .i64 0]) ∧ Below W.heap.size W W' := by
  obtain ⟨a, cap, hc, hr⟩ := h
  have hlt : p < W.heap.size := World.block_lt_of_cell? W _ hc
  obtain ⟨b, off, rfl, h0, h1, h2, h3⟩ := hr k hk
  have hblt : b < W.heap.size := World.block_lt_of_cell? W _ h0
  have hbne : b ≠ W.heap.size := by omega
  have hpne : p ≠ W.heap.size := by omega
  have HA : Hid (Calls Try.prog 14 #[.pointer (some ⟨p, 0, none⟩)] (W.alloc (.cells #[.string ⟨#[]⟩, .string ⟨#[]⟩, .int .i64 0, .int .i64 0] 27)) fun e W' => e = .returned (.int .i64 l.length) ∧ W' = (W.alloc (.cells #[.string ⟨#[]⟩, .string ⟨#[]⟩, .int .i64 0, .int .i64 0] 27))) := len_any p _ l.length cap _ (by rw [((Below.refl _ W).alloc (Nat.le_refl _) _).cell (p := ⟨p, 0, none⟩) hlt]; exact hc)
  clear hr
  generalize l.getD k sig0 = x at *
  obtain ⟨xn, xu, xl, xh⟩ := x
  simp only at h0 h1 h2 h3
  go_enter Try.func15, Try.ntmps15
  go_wp2_with (go_at_call 14; refine HA.out.mono ?_; rintro e w' ⟨rfl, hw9⟩; subst w')
  refine bodyPost_ret (v := .tuple #[.agg #[.string xn, .string xu, .int .i64 xl, .int .i64 xh], .int .i64 0]) (by simp [results, Try.results15, go_sem]) rfl ⟨rfl, ?_⟩
  exact (Below.refl _ _).alloc (Nat.le_refl _) _
set_option maxHeartbeats 400000 in
theorem signal_out (p : Nat) (l : List Sig) (i : Int) (W : World) (h : NmAt W p l) (hl : l.length ≤ 1000000) (hi : i < 0 ∨ (l.length : Int) ≤ i) :
    Calls Try.prog 15 #[.pointer (some ⟨p, 0, none⟩), .int .i64 i] W fun e W' => e = .returned (.tuple #[.agg #[.string ⟨#[]⟩, .string ⟨#[]⟩, .int .i64 0, .int .i64 0], .int .i64 3]) ∧ Below W.heap.size W W' := by
  obtain ⟨a, cap, hc, hr⟩ := h
  have hlt : p < W.heap.size := World.block_lt_of_cell? W _ hc
  have HA : Hid (Calls Try.prog 14 #[.pointer (some ⟨p, 0, none⟩)] (W.alloc (.cells #[.string ⟨#[]⟩, .string ⟨#[]⟩, .int .i64 0, .int .i64 0] 27)) fun e W' => e = .returned (.int .i64 l.length) ∧ W' = (W.alloc (.cells #[.string ⟨#[]⟩, .string ⟨#[]⟩, .int .i64 0, .int .i64 0] 27))) := len_any p _ l.length cap _ (by rw [((Below.refl _ W).alloc (Nat.le_refl _) _).cell (p := ⟨p, 0, none⟩) hlt]; exact hc)
  clear hr hc
  by_cases hn : i < 0
  · clear hi
    go_enter Try.func15, Try.ntmps15
    go_wp2_with (go_at_call 14; refine HA.out.mono ?_; rintro e w' ⟨rfl, hw9⟩; subst w')
    refine bodyPost_ret (v := .tuple #[.agg #[.string ⟨#[]⟩, .string ⟨#[]⟩, .int .i64 0, .int .i64 0], .int .i64 3]) (by simp [results, Try.results15, go_sem]) rfl ⟨rfl, ?_⟩
    exact (Below.refl _ _).alloc (Nat.le_refl _) _
  · have hn2 : (l.length : Int) ≤ i := by omega
    clear hi
    go_enter Try.func15, Try.ntmps15
    go_wp2_with (go_at_call 14; refine HA.out.mono ?_; rintro e w' ⟨rfl, hw9⟩; subst w')
    refine bodyPost_ret (v := .tuple #[.agg #[.string ⟨#[]⟩, .string ⟨#[]⟩, .int .i64 0, .int .i64 0], .int .i64 3]) (by simp [results, Try.results15, go_sem]) rfl ⟨rfl, ?_⟩
    exact (Below.refl _ _).alloc (Nat.le_refl _) _
set_option maxHeartbeats 400000 in
theorem signal_nil (i : Int) (W : World) :
    Calls Try.prog 15 #[.pointer none, .int .i64 i] W fun e W' => e = .returned (.tuple #[.agg #[.string ⟨#[]⟩, .string ⟨#[]⟩, .int .i64 0, .int .i64 0], .int .i64 3]) ∧ Below W.heap.size W W' := by
  by_cases hn : i < 0
  · go_enter Try.func15, Try.ntmps15
    go_wp2_with (go_at_call 14; refine (len_nil _).mono ?_; rintro e w' ⟨rfl, hw9⟩; subst w')
    refine bodyPost_ret (v := .tuple #[.agg #[.string ⟨#[]⟩, .string ⟨#[]⟩, .int .i64 0, .int .i64 0], .int .i64 3]) (by simp [results, Try.results15, go_sem]) rfl ⟨rfl, ?_⟩
    exact (Below.refl _ _).alloc (Nat.le_refl _) _
  · have hn2 : (0 : Int) ≤ i := by omega
    go_enter Try.func15, Try.ntmps15
    go_wp2_with (go_at_call 14; refine (len_nil _).mono ?_; rintro e w' ⟨rfl, hw9⟩; subst w')
    refine bodyPost_ret (v := .tuple #[.agg #[.string ⟨#[]⟩, .string ⟨#[]⟩, .int .i64 0, .int .i64 0], .int .i64 3]) (by simp [results, Try.results15, go_sem]) rfl ⟨rfl, ?_⟩
    exact (Below.refl _ _).alloc (Nat.le_refl _) _
set_option maxHeartbeats 1000000 in
theorem named_any (p : Nat) (l : List Sig) (s : ByteArray) (W : World) (h : NmAt W p l) (hl : l.length ≤ 1000000) (hi : idxN l s < l.length) :
    Calls Try.prog 46 #[.pointer (some ⟨p, 0, none⟩), .string s] W fun e W' => e = .returned (.agg #[.string (l.getD (idxN l s) sig0).name, .string (l.getD (idxN l s) sig0).unit, .int .i64 (l.getD (idxN l s) sig0).lo, .int .i64 (l.getD (idxN l s) sig0).hi]) ∧ Below W.heap.size W W' := by
  have hb0 : Below W.heap.size W (W.alloc (.cells #[.string ⟨#[]⟩, .string ⟨#[]⟩, .int .i64 0, .int .i64 0] 27)) := (Below.refl _ _).alloc (Nat.le_refl _) _
  have HB0 : Hid (Below W.heap.size W (W.alloc (.cells #[.string ⟨#[]⟩, .string ⟨#[]⟩, .int .i64 0, .int .i64 0] 27))) := hb0
  have HF := find_yes p l s _ (h.below hb0) hl hi
  have HS : Hid (∀ X, Below (W.alloc (.cells #[.string ⟨#[]⟩, .string ⟨#[]⟩, .int .i64 0, .int .i64 0] 27)).heap.size (W.alloc (.cells #[.string ⟨#[]⟩, .string ⟨#[]⟩, .int .i64 0, .int .i64 0] 27)) X → Calls Try.prog 15 #[.pointer (some ⟨p, 0, none⟩), .int .i64 (idxN l s)] X fun e W' => e = .returned (.tuple #[.agg #[.string (l.getD (idxN l s) sig0).name, .string (l.getD (idxN l s) sig0).unit, .int .i64 (l.getD (idxN l s) sig0).lo, .int .i64 (l.getD (idxN l s) sig0).hi], .int .i64 0]) ∧ Below X.heap.size X W') :=
    fun X hX => signal_in p l (idxN l s) X ((h.below hb0).below hX) hl hi
  generalize l.getD (idxN l s) sig0 = x at *
  generalize idxN l s = n at *
  obtain ⟨xn, xu, xl, xh⟩ := x
  simp only at HS
  have HF2 : Hid (Calls Try.prog 12 #[.pointer (some ⟨p, 0, none⟩), .string s] (W.alloc (.cells #[.string ⟨#[]⟩, .string ⟨#[]⟩, .int .i64 0, .int .i64 0] 27)) fun e W' => e = .returned (.tuple #[.int .i64 n, .int .i64 0]) ∧ Below (W.alloc (.cells #[.string ⟨#[]⟩, .string ⟨#[]⟩, .int .i64 0, .int .i64 0] 27)).heap.size (W.alloc (.cells #[.string ⟨#[]⟩, .string ⟨#[]⟩, .int .i64 0, .int .i64 0] 27)) W') := HF
  clear HF h hb0
  go_enter Try.func46, Try.ntmps46
  go_wp2_with fail
  refine Calls.mono HF2.out ?_
  rintro e W1 ⟨rfl, hb1⟩
  have HB1 : Hid (Below W.heap.size W W1) := HB0.out.trans (hb1.mono HB0.out.size)
  go_wp2_with fail
  refine Calls.mono (HS.out _ hb1) ?_
  rintro e W2 ⟨rfl, hb2⟩
  have HB2 : Hid (Below W.heap.size W W2) := HB1.out.trans (hb2.mono HB1.out.size)
  have b12 := hb1.trans (hb2.mono hb1.size)
  have c0 : W2.cell? ⟨W.heap.size, 0, none⟩ = some (.string ⟨#[]⟩) := by rw [b12.cell (p := ⟨W.heap.size, 0, none⟩) (by simp)]; simp [go_sem]
  have c1 : W2.cell? ⟨W.heap.size, 1, none⟩ = some (.string ⟨#[]⟩) := by rw [b12.cell (p := ⟨W.heap.size, 1, none⟩) (by simp)]; simp [go_sem]
  have c2 : W2.cell? ⟨W.heap.size, 2, none⟩ = some (.int .i64 0) := by rw [b12.cell (p := ⟨W.heap.size, 2, none⟩) (by simp)]; simp [go_sem]
  have c3 : W2.cell? ⟨W.heap.size, 3, none⟩ = some (.int .i64 0) := by rw [b12.cell (p := ⟨W.heap.size, 3, none⟩) (by simp)]; simp [go_sem]
  have f0 : ∀ j, W2.frozen? ⟨W.heap.size, j, none⟩ = false := fun j => by rw [b12.frozen (p := ⟨W.heap.size, j, none⟩) (by simp)]; simp [go_sem]
  have hlt2 : W.heap.size < W2.heap.size := by have := b12.size; simp at this; omega
  clear hb1 hb2 b12
  go_wp2
  refine bodyPost_ret (v := .agg #[.string xn, .string xu, .int .i64 xl, .int .i64 xh]) (by simp [results, Try.results46, go_sem, c0, c1, c2, c3, cell_alloc_lt, hlt2]) rfl ⟨rfl, ?_⟩
  refine Below.alloc (below_set (below_set (below_set (below_set HB2.out _ _ _ (Nat.le_refl _)) _ _ _ (Nat.le_refl _)) _ _ _ (Nat.le_refl _)) _ _ _ (Nat.le_refl _)) ?_ _
  have := HB2.out.size; simp; omega
end Go.Proofs.Ytjnnjjajlafchaa
