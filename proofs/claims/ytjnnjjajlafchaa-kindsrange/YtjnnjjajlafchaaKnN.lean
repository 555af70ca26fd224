/- The contract of kinds' New of a specification without properties. Conditions: at most 1000 signals, names of at most 2^63 - 1 bytes. -/
import Derived.Test.YtjnnjjajlafchaaKnM
namespace Go.Proofs.Ytjnnjjajlafchaa
open Go.RowKit
set_option linter.unusedVariables false
set_option maxRecDepth 100000

/-- What New tells of signals alone. -/
def NewTell (W : World) (l : List Sig) (e : Ending) (W' : World) : Prop :=
  Below W.heap.size W W' ∧ (((namesE l).1 ≠ 0 ∧ e = .returned (.tuple #[.pointer none, .int .i64 (namesE l).1, .string (namesE l).2])) ∨
    ((namesE l).1 = 0 ∧ ∃ q p, e = .returned (.tuple #[.pointer (some ⟨q, 0, none⟩), .int .i64 0, .string ⟨#[]⟩]) ∧ ShAt W' q p l))
set_option maxHeartbeats 2000000 in
theorem new_none (nm : ByteArray) (c s : Int) (a : Option Addr) (cap : Nat) (l : List Sig) (W : World) (h : SigRow W a l) (hl : l.length ≤ 1000) (hs : ∀ x ∈ l, x.name.size ≤ 9223372036854775807) :
    Calls Try.prog 11 #[.agg #[.string nm, .int .i64 c, .int .i64 s, .slice a l.length cap, .slice none 0 0]] W (NewTell W l) := by
  have HB0 : Hid (Below W.heap.size W (W.alloc (.cells #[.string nm, .int .i64 c, .int .i64 s, .slice a l.length cap, .slice none 0 0] 42))) := (Below.refl _ _).alloc (Nat.le_refl _) _
  have HN := newNames_any a cap l _ (h.below HB0.out) hl hs
  have HK : Hid (∀ X, Below (W.alloc (.cells #[.string nm, .int .i64 c, .int .i64 s, .slice a l.length cap, .slice none 0 0] 42)).heap.size (W.alloc (.cells #[.string nm, .int .i64 c, .int .i64 s, .slice a l.length cap, .slice none 0 0] 42)) X → ∀ j, X.cell? ⟨W.heap.size, j, none⟩ = (W.alloc (.cells #[.string nm, .int .i64 c, .int .i64 s, .slice a l.length cap, .slice none 0 0] 42)).cell? ⟨W.heap.size, j, none⟩) := fun X hX j => hX.cell (p := ⟨W.heap.size, j, none⟩) (by simp)
  clear h hs
  go_enter Try.func11, Try.ntmps11
  go_wp2_with fail
  refine Calls.mono HN ?_
  rintro e W1 ⟨hb1, h1⟩
  have HB1 : Hid (Below W.heap.size W W1) := HB0.out.trans (hb1.mono HB0.out.size)
  have e0 : W1.cell? ⟨W.heap.size, 0, none⟩ = some (.string nm) := by rw [HK.out _ hb1]; simp [go_sem]
  have e1 : W1.cell? ⟨W.heap.size, 1, none⟩ = some (.int .i64 c) := by rw [HK.out _ hb1]; simp [go_sem]
  have e2 : W1.cell? ⟨W.heap.size, 2, none⟩ = some (.int .i64 s) := by rw [HK.out _ hb1]; simp [go_sem]
  have e4 : W1.cell? ⟨W.heap.size, 4, none⟩ = some (.slice none 0 0) := by rw [HK.out _ hb1]; simp [go_sem]
  clear hb1 HN
  rcases h1 with ⟨hz, rfl⟩ | ⟨hz, p, v, rfl, ho⟩
  · have HZ : Hid ((namesE l).1 ≠ 0) := hz
    have k1 : ((namesE l).1 == 0) = false := by simpa using hz
    have k2 : ((namesE l).1 != 0) = true := by simpa using hz
    have HW : Hid (NewTell W l (.returned (.tuple #[.pointer none, .int .i64 (namesE l).1, .string (namesE l).2])) W1) := ⟨HB1.out, .inl ⟨hz, rfl⟩⟩
    clear hz
    generalize (namesE l).1 = ne at *
    generalize (namesE l).2 = nw at *
    go_wp2
    refine bodyPost_ret (v := .tuple #[.pointer none, .int .i64 ne, .string nw]) (by simp [results, Try.results11, go_sem]) rfl HW.out
  · have hlt : W.heap.size < W1.heap.size := World.block_lt_of_cell? W1 _ e0
    have HO : Hid (NmAt W1 p l) := ho.at
    have HZ : Hid ((namesE l).1 = 0) := hz
    clear ho hz
    have g4 : ∀ o, (W1.alloc o).cell? ⟨W.heap.size, 4, none⟩ = some (.slice none 0 0) := fun o => by rw [cell_alloc_lt _ _ _ _ hlt]; exact e4
    have HE : Hid (∀ v0 v1 v2 v3, ShAt (W1.alloc (.cells #[.pointer (some ⟨p, 0, none⟩), v0, v1, v2, v3, .slice none 0 0] 48)) W1.heap.size p l) := fun v0 v1 v2 v3 => ⟨by simp [go_sem], HO.out.below ((Below.refl _ _).alloc (Nat.le_refl _) _)⟩
    go_wp2
    go_loopw [38] (fun i wr => i = .int .i64 0 ∧ ShAt wr W1.heap.size p l ∧ Below W.heap.size W wr) (fun _ _ => 0)
    case atStart => exact ⟨rfl, HE.out _ _ _ _, HB1.out.alloc HB1.out.size _⟩
    case round =>
      obtain ⟨rfl, hsh, hbr⟩ := hrel
      have HSH : Hid (ShAt wr W1.heap.size p l ∧ Below W.heap.size W wr) := ⟨hsh, hbr⟩
      clear hsh hbr
      go_wp2
      refine bodyPost_ret (v := .tuple #[.pointer (some ⟨W1.heap.size, 0, none⟩), .int .i64 0, .string ⟨#[]⟩]) (by simp [results, Try.results11, go_sem]) rfl ⟨HSH.out.2, .inr ⟨HZ.out, W1.heap.size, p, rfl, HSH.out.1⟩⟩
def aliveL : List Sig := [⟨⟨#[97]⟩, ⟨#[109]⟩, 0, 10⟩, ⟨⟨#[116]⟩, ⟨#[115]⟩, 0, 0⟩]
def aliveOne : List Nd := [⟨2, 0, 0, 0, [⟨⟨#[97]⟩, 8589934592⟩], 3⟩]
def aliveTwo : List Nd := [⟨2, 0, 0, 0, [⟨⟨#[97]⟩, 1⟩, ⟨⟨#[116]⟩, 1⟩], 0⟩]
theorem al1 : namesE aliveL = (0, ⟨#[]⟩) := by kernel_rfl
theorem al2 : idxN aliveL ⟨#[116]⟩ = 1 := by kernel_rfl
theorem al3 : rangeR aliveL aliveOne = (0, 20, 0) := by kernel_rfl
theorem al4 : checkE aliveL aliveTwo = 41 := by kernel_rfl
theorem al5 : SigsFit aliveL := by
  intro x hx
  simp only [aliveL, List.mem_cons, List.not_mem_nil, or_false] at hx
  rcases hx with rfl | rfl <;> exact ⟨by simp, ⟨by simp, by simp⟩, ⟨by simp, by simp⟩⟩
theorem al6 : ∀ x ∈ aliveL, x.name.size ≤ 9223372036854775807 := by
  intro x hx
  simp only [aliveL, List.mem_cons, List.not_mem_nil, or_false] at hx
  rcases hx with rfl | rfl <;> simp [ByteArray.size]
theorem al7 : NodesFit aliveOne := by
  intro x hx
  simp only [aliveOne, List.mem_cons, List.not_mem_nil, or_false] at hx
  subst hx
  refine ⟨fun t ht => ?_, by simp, by simp⟩
  simp only [List.mem_cons, List.not_mem_nil, or_false] at ht
  subst ht
  simp [ByteArray.size]
theorem al8 : NodesFit aliveTwo := by
  intro x hx
  simp only [aliveTwo, List.mem_cons, List.not_mem_nil, or_false] at hx
  subst hx
  refine ⟨fun t ht => ?_, by simp, by simp⟩
  simp only [List.mem_cons, List.not_mem_nil, or_false] at ht
  rcases ht with rfl | rfl <;> simp [ByteArray.size]
theorem al9 : ∀ x ∈ aliveOne, TimesFit x.terms := by
  intro x hx
  simp only [aliveOne, List.mem_cons, List.not_mem_nil, or_false] at hx
  subst hx
  intro t ht
  simp only [List.mem_cons, List.not_mem_nil, or_false] at ht
  subst ht
  exact ⟨by simp, by simp⟩
/-- One part in memory. -/
theorem row_node (W : World) (b : Nat) (x : Nd) (h : NodeAt W b 0 x) : NodeRow W (some ⟨b, 0, none⟩) [x] := by
  intro i hi
  obtain rfl : i = 0 := by simp at hi; omega
  exact ⟨b, 0, rfl, h⟩
set_option maxHeartbeats 4000000 in
theorem alive_any (w : World) : Calls Try.prog 7 #[] w fun e w' => e = .returned (.bool true) ∧ Below w.heap.size w w' := by
  have HB0 : Hid (Below w.heap.size w (w.alloc (.cells #[.string ⟨#[97]⟩, .string ⟨#[109]⟩, .int .i64 0, .int .i64 10, .string ⟨#[116]⟩, .string ⟨#[115]⟩, .int .i64 0, .int .i64 0] 27))) := (Below.refl _ _).alloc (Nat.le_refl _) _
  have hrow : SigRow (w.alloc (.cells #[.string ⟨#[97]⟩, .string ⟨#[109]⟩, .int .i64 0, .int .i64 10, .string ⟨#[116]⟩, .string ⟨#[115]⟩, .int .i64 0, .int .i64 0] 27)) (some ⟨w.heap.size, 0, none⟩) aliveL := by
    intro i hi
    have : i = 0 ∨ i = 1 := by simp [aliveL] at hi; omega
    refine ⟨w.heap.size, 0, rfl, ?_⟩
    rcases this with rfl | rfl <;> simp [go_sem, aliveL]
  have HN := new_none ⟨#[]⟩ 0 0 _ 2 aliveL _ hrow (by simp [aliveL]) al6
  have e2 : aliveL.length = 2 := rfl
  rw [e2] at HN
  clear hrow e2
  go_enter Try.func7, Try.ntmps7
  go_wp2_with fail
  refine Calls.mono HN ?_
  rintro e W1 ⟨hb1, h1⟩
  have HB1 : Hid (Below w.heap.size w W1) := HB0.out.trans (hb1.mono HB0.out.size)
  clear hb1 HN
  rcases h1 with ⟨hz, _⟩ | ⟨_, q, p, rfl, hsh⟩
  · rw [al1] at hz; exact absurd rfl hz
  · have hq := hsh.1
    have HF := find_yes p aliveL ⟨#[116]⟩ W1 hsh.2 (by simp [aliveL]) (by rw [al2]; simp [aliveL])
    rw [al2] at HF
    have HSH : Hid (ShAt W1 q p aliveL) := hsh
    clear hsh
    go_wp2_with fail
    refine Calls.mono HF ?_
    rintro e W2 ⟨rfl, hb2⟩
    have HB2 : Hid (Below w.heap.size w W2) := HB1.out.trans (hb2.mono HB1.out.size)
    have HSH2 : Hid (ShAt W2 q p aliveL) := HSH.out.below hb2
    clear hb2 HF hq
    have HRg : Hid (∀ X g, Below W2.heap.size W2 X → NodeRow X (some ⟨g, 0, none⟩) aliveOne → Calls Try.prog 17 #[.pointer (some ⟨q, 0, none⟩), .slice (some ⟨g, 0, none⟩) 1 1] X fun e W' => e = .returned (.tuple #[.agg #[.int .i64 0, .int .i64 20], .int .i64 0]) ∧ Below X.heap.size X W') := fun X g hX hr => by
      have := range_any q p aliveL (some ⟨g, 0, none⟩) 1 aliveOne X (HSH2.out.below hX) (by simp [aliveL]) hr (by simp [aliveOne]) al7 (by simp [aliveOne]) al5 al9
      rw [al3] at this; exact this
    have HCk : Hid (∀ X g, Below W2.heap.size W2 X → NodeRow X (some ⟨g, 0, none⟩) aliveTwo → Calls Try.prog 18 #[.pointer (some ⟨q, 0, none⟩), .slice (some ⟨g, 0, none⟩) 1 1] X fun e W' => e = .returned (.int .i64 41) ∧ Below X.heap.size X W') := fun X g hX hr => by
      have := check_any q p aliveL (some ⟨g, 0, none⟩) 1 aliveTwo X (HSH2.out.below hX) (by simp [aliveL]) hr (by simp [aliveTwo]) al8 (by simp [aliveTwo])
      rw [al4] at this; exact this
    have HLn : Hid (∀ X, Below W2.heap.size W2 X → X.cell? ⟨q, 0, none⟩ = some (.pointer (some ⟨p, 0, none⟩)) ∧ Calls Try.prog 14 #[.pointer (some ⟨p, 0, none⟩)] X fun e W' => e = .returned (.int .i64 2) ∧ W' = X) := fun X hX => by
      obtain ⟨h1, a, cap, h2, _⟩ := HSH2.out.below hX
      exact ⟨h1, len_any p a 2 cap X h2⟩
    have HB3 : Hid (Below W2.heap.size W2 ((((W2.alloc (.cells #[.string ⟨#[97]⟩, .int .i64 8589934592] 74)).alloc (.cells #[.int .i64 2, .int .i64 0, .int .i64 0, .int .i64 0, .slice (some ⟨W2.heap.size, 0, none⟩) 1 1, .int .i64 3] 67)).alloc (.cells #[.string ⟨#[97]⟩, .int .i64 1, .string ⟨#[116]⟩, .int .i64 1] 74)).alloc (.cells #[.int .i64 2, .int .i64 0, .int .i64 0, .int .i64 0, .slice (some ⟨W2.heap.size + 1 + 1, 0, none⟩) 2 2, .int .i64 0] 67))) :=
      ((((Below.refl _ _).alloc (Nat.le_refl _) _).alloc (by simp) _).alloc (by simp; omega) _).alloc (by simp; omega) _
    have HN1 : Hid (NodeRow ((((W2.alloc (.cells #[.string ⟨#[97]⟩, .int .i64 8589934592] 74)).alloc (.cells #[.int .i64 2, .int .i64 0, .int .i64 0, .int .i64 0, .slice (some ⟨W2.heap.size, 0, none⟩) 1 1, .int .i64 3] 67)).alloc (.cells #[.string ⟨#[97]⟩, .int .i64 1, .string ⟨#[116]⟩, .int .i64 1] 74)).alloc (.cells #[.int .i64 2, .int .i64 0, .int .i64 0, .int .i64 0, .slice (some ⟨W2.heap.size + 1 + 1, 0, none⟩) 2 2, .int .i64 0] 67)) (some ⟨W2.heap.size + 1, 0, none⟩) aliveOne) :=
      row_node _ _ _ ⟨by simp [go_sem], by simp [go_sem], by simp [go_sem], by simp [go_sem], ⟨some ⟨W2.heap.size, 0, none⟩, 1, by simp [go_sem], fun i hi => by
        obtain rfl : i = 0 := by simp at hi; omega
        exact ⟨W2.heap.size, 0, rfl, by simp [go_sem], by simp [go_sem]⟩⟩, by simp [go_sem]⟩
    have HN2 : Hid (NodeRow ((((W2.alloc (.cells #[.string ⟨#[97]⟩, .int .i64 8589934592] 74)).alloc (.cells #[.int .i64 2, .int .i64 0, .int .i64 0, .int .i64 0, .slice (some ⟨W2.heap.size, 0, none⟩) 1 1, .int .i64 3] 67)).alloc (.cells #[.string ⟨#[97]⟩, .int .i64 1, .string ⟨#[116]⟩, .int .i64 1] 74)).alloc (.cells #[.int .i64 2, .int .i64 0, .int .i64 0, .int .i64 0, .slice (some ⟨W2.heap.size + 1 + 1, 0, none⟩) 2 2, .int .i64 0] 67)) (some ⟨W2.heap.size + 1 + 1 + 1, 0, none⟩) aliveTwo) :=
      row_node _ _ _ ⟨by simp [go_sem], by simp [go_sem], by simp [go_sem], by simp [go_sem], ⟨some ⟨W2.heap.size + 1 + 1, 0, none⟩, 2, by simp [go_sem], fun i hi => by
        have : i = 0 ∨ i = 1 := by simp at hi; omega
        refine ⟨W2.heap.size + 1 + 1, 0, rfl, ?_⟩
        rcases this with rfl | rfl <;> simp [go_sem]⟩, by simp [go_sem]⟩
    go_wp2_with fail
    refine Calls.mono (HRg.out _ _ HB3.out HN1.out) ?_
    rintro e W4 ⟨rfl, hb4⟩
    have HB4 : Hid (Below W2.heap.size W2 W4) := HB3.out.trans (hb4.mono HB3.out.size)
    have HN4 : Hid (NodeRow W4 (some ⟨W2.heap.size + 1 + 1 + 1, 0, none⟩) aliveTwo) := HN2.out.below hb4
    have HB5 : Hid (Below W2.heap.size W2 (W4.alloc (.cells #[.int .i64 0, .int .i64 20] 25))) := HB4.out.alloc HB4.out.size _
    obtain ⟨hq5, hln⟩ := HLn.out _ HB5.out
    have HN5 : Hid (NodeRow (W4.alloc (.cells #[.int .i64 0, .int .i64 20] 25)) (some ⟨W2.heap.size + 1 + 1 + 1, 0, none⟩) aliveTwo) := HN4.out.below ((Below.refl _ _).alloc (Nat.le_refl _) _)
    clear hb4 HN1 HN2 HB3
    go_wp2_with fail
    refine Calls.mono hln ?_
    rintro e W6 ⟨rfl, hw6⟩
    subst hw6
    clear hln
    go_wp2_with fail
    refine Calls.mono (HCk.out _ _ HB5.out HN5.out) ?_
    rintro e W7 ⟨rfl, hb7⟩
    have HB7 : Hid (Below w.heap.size w W7) := HB2.out.trans ((HB5.out.trans (hb7.mono HB5.out.size)).mono HB2.out.size)
    clear hb7
    go_wp2
    go_ret
    exact ⟨rfl, HB7.out⟩
end Go.Proofs.Ytjnnjjajlafchaa
