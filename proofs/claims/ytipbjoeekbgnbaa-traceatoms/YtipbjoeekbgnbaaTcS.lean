/- The contract of trace's since: what it means, and that its walk tells that. Conditions: at most 1000 places, from not below 0. -/
import Derived.Test.YtipbjoeekbgnbaaBz7
namespace Go.Proofs.Ytipbjoeekbgnbaa
open Go.RowKit
set_option linter.unusedVariables false
set_option maxRecDepth 100000

/-- Is there a place from fr to to ago at which q holds, p at each one behind it? -/
def SinceP (fr to : Int) (p q : Nat → Bool) (i : Nat) : Prop := ∃ j, j ≤ i ∧ fr ≤ (i : Int) - j ∧ (to = -1 ∨ (i : Int) - j ≤ to) ∧ q j = true ∧ ∀ t, j < t → t ≤ i → p t = true
noncomputable def sinceF (fr to : Int) (p q : Nat → Bool) (i : Nat) : Bool := @decide (SinceP fr to p q i) (Classical.propDecidable _)
theorem sinceF_iff (fr to : Int) (p q : Nat → Bool) (i : Nat) : sinceF fr to p q i = true ↔ SinceP fr to p q i := by unfold sinceF; exact @decide_eq_true_iff _ (Classical.propDecidable _)
/-- The last place that p failed at, ahead of k. -/
structure FirstIs (p : Nat → Bool) (k : Nat) (F : Int) : Prop where
  lo : 0 ≤ F
  spot : F = 0 ∨ ∃ j : Nat, F = j ∧ j < k ∧ p j = false
  all : ∀ t, t < k → p t = false → (t : Int) ≤ F
/-- The last place that q held at, fr ahead of k. -/
structure LastIs (q : Nat → Bool) (fr k : Nat) (L : Int) : Prop where
  spot : L = -1 ∨ ∃ j : Nat, L = j ∧ q j = true ∧ j + fr < k
  all : ∀ j : Nat, j + fr < k → q j = true → (j : Int) ≤ L
theorem FirstIs.bound {p : Nat → Bool} {k : Nat} {F : Int} (h : FirstIs p k F) : 0 ≤ F ∧ F ≤ k := by
  refine ⟨h.lo, ?_⟩
  rcases h.spot with e | ⟨j, e, h1, _⟩
  · omega
  · omega
theorem LastIs.bound {q : Nat → Bool} {fr k : Nat} {L : Int} (h : LastIs q fr k L) : -1 ≤ L ∧ L ≤ k := by
  rcases h.spot with e | ⟨j, e, _, h1⟩
  · omega
  · omega
theorem FirstIs.yes {p : Nat → Bool} {k : Nat} {F : Int} (h : FirstIs p k F) (hp : p k = true) : FirstIs p (k + 1) F :=
  ⟨h.lo, h.spot.imp id fun ⟨j, e, h1, h2⟩ => ⟨j, e, by omega, h2⟩, fun t ht hf => by
    rcases Nat.lt_succ_iff_lt_or_eq.1 ht with z | z
    · exact h.all t z hf
    · subst z; rw [hp] at hf; cases hf⟩
theorem FirstIs.no {p : Nat → Bool} {k : Nat} {F : Int} (h : FirstIs p k F) (hp : p k = false) : FirstIs p (k + 1) k :=
  ⟨by omega, .inr ⟨k, rfl, by omega, hp⟩, fun t ht hf => by omega⟩
theorem LastIs.out {q : Nat → Bool} {fr k : Nat} {L : Int} (h : LastIs q fr k L) (hk : k < fr) : LastIs q fr (k + 1) L :=
  ⟨h.spot.imp id fun ⟨j, e, h1, h2⟩ => ⟨j, e, h1, by omega⟩, fun j hj hq => by omega⟩
theorem LastIs.no {q : Nat → Bool} {fr j : Nat} {L : Int} (h : LastIs q fr (j + fr) L) (hq : q j = false) : LastIs q fr (j + fr + 1) L :=
  ⟨h.spot.imp id fun ⟨j, e, h1, h2⟩ => ⟨j, e, h1, by omega⟩, fun t ht hf => by
    by_cases e : t = j
    · subst e; rw [hq] at hf; cases hf
    · exact h.all t (by omega) hf⟩
theorem LastIs.yes {q : Nat → Bool} {fr j : Nat} {L : Int} (h : LastIs q fr (j + fr) L) (hq : q j = true) : LastIs q fr (j + fr + 1) j :=
  ⟨.inr ⟨j, rfl, hq, by omega⟩, fun t ht hf => by omega⟩
theorem since_says {p q : Nat → Bool} {fr k : Nat} {to F L : Int} (hF : FirstIs p (k + 1) F) (hL : LastIs q fr (k + 1) L) (r : Bool) (hr : r = true ↔ F ≤ L ∧ (to = -1 ∨ (k : Int) - L ≤ to)) : r = sinceF fr to p q k := by
  rw [Bool.eq_iff_iff, hr, sinceF_iff]
  constructor
  · rintro ⟨h1, h2⟩
    have h0 := hF.lo
    rcases hL.spot with e | ⟨j, rfl, hq, hj⟩
    · omega
    · refine ⟨j, by omega, by omega, h2, hq, fun t h3 h4 => ?_⟩
      cases hp : p t with
      | true => rfl
      | false => have := hF.all t (by omega) hp; omega
  · rintro ⟨j, h1, h2, h3, hq, hp⟩
    have hj := hL.all j (by omega) hq
    refine ⟨?_, by omega⟩
    rcases hF.spot with e | ⟨t, rfl, h4, h5⟩
    · omega
    · by_cases q1 : j < t
      · rw [hp t q1 (by omega)] at h5; cases h5
      · omega
set_option maxHeartbeats 8000000 in
theorem since_tells (fr : Nat) (to : Int) (a a2 : Option Addr) (n cap cap2 : Nat) (p q : Nat → Bool) (W : World) (h : BoRow W a n p) (h2 : BoRow W a2 n q) (hn : n ≤ 1000) :
    Calls Try.prog 57 #[.int .i64 fr, .int .i64 to, .slice a n cap, .slice a2 n cap2] W (BoTells W n (sinceF fr to p q)) := by
  have HP : Hid (∀ X, Below W.heap.size W X → BoRow X a n p) := fun X hX => h.below hX
  have HQ : Hid (∀ X, Below W.heap.size W X → BoRow X a2 n q) := fun X hX => h2.below hX
  clear h h2
  go_enter Try.func57, Try.ntmps57
  go_wp2_with (at_make; refine wpList_mkB _ rfl _ _ rfl n rfl rfl hn ?_; intro w1 hf1 hb1 hl1)
  have HF : Hid (FillB w1 W.heap.size n 0 (sinceF fr to p q)) := hf1 _
  have HB : Hid (Below W.heap.size W w1) := hb1
  clear hf1 hb1
  go_loopw [10, 11, 18] (fun f l i wr => ∃ (k : Nat) (F L : Int), k ≤ n ∧ i = .int .i64 k ∧ f = .int .i64 F ∧ l = .int .i64 L ∧ FirstIs p k F ∧ LastIs q fr k L ∧ Below W.heap.size W wr ∧ FillB wr W.heap.size n k (sinceF fr to p q)) (fun _ _ i _ => n - (intOf i).toNat)
  case atStart => exact ⟨0, 0, -1, Nat.zero_le _, rfl, rfl, rfl, ⟨by omega, .inl rfl, fun t ht => by omega⟩, ⟨.inl rfl, fun t ht => by omega⟩, HB.out, HF.out⟩
  case round =>
    obtain ⟨k, F, L, hk, rfl, rfl, rfl, hF, hL, hb, hf⟩ := hrel
    obtain ⟨f1, f2⟩ := hF.bound
    obtain ⟨l1, l2⟩ := hL.bound
    have HBk : Hid (Below W.heap.size W wr) := hb
    have HFk : Hid (FillB wr W.heap.size n k (sinceF fr to p q)) := hf
    have HFI : Hid (FirstIs p k F) := hF
    have HLI : Hid (LastIs q fr k L) := hL
    clear hb hf hF hL
    by_cases hlt : k < n
    · obtain ⟨b, off, rfl, hc⟩ := HP.out _ HBk.out k hlt
      have hf := HFk.out.frz k
      have hc2 := HFk.out.cell k hlt
      have HN : Hid (∀ r F L, FirstIs p (k + 1) F → LastIs q fr (k + 1) L → (r = true ↔ F ≤ L ∧ (to = -1 ∨ (k : Int) - L ≤ to)) → FillB (wr.setCell ⟨W.heap.size, k, none⟩ (.bool r)) W.heap.size n (k + 1) (sinceF fr to p q)) := fun r F L h1 h2 h3 => HFk.out.step hlt _ (since_says h1 h2 r h3)
      have HBN : Hid (∀ r, Below W.heap.size W (wr.setCell ⟨W.heap.size, k, none⟩ (.bool r))) := fun r => HBk.out.setCell (Nat.le_refl _) _
      generalize sinceF fr to p q k = sk at hc2
      cases hpk : p k with
      | true =>
        have HFI2 : Hid (FirstIs p (k + 1) F) := HFI.out.yes hpk
        rw [hpk] at hc
        by_cases hfk : fr ≤ k
        · obtain ⟨j, rfl⟩ : ∃ j, k = j + fr := ⟨k - fr, by omega⟩
          have hx : ((j + fr : Nat) : Int) - fr = j := by omega
          obtain ⟨b2, off2, rfl, hd⟩ := HQ.out _ HBk.out j (by omega)
          cases hqj : q j with
          | true =>
            have HLI2 : Hid (LastIs q fr (j + fr + 1) (j : Int)) := HLI.out.yes hqj
            rw [hqj] at hd
            by_cases hge : (F : Int) ≤ (j : Int)
            · cases hto : (to == -1) with
              | true =>
                have HT : Hid (to = -1) := by simpa [Hid] using hto
                go_wp2_with (first | rw [hx])
                go_roundw
                case rel => exact ⟨j + fr + 1, F, (j : Int), by omega, by go_num, rfl, rfl, HFI2.out, HLI2.out, HBN.out _, HN.out _ _ _ HFI2.out HLI2.out (by have := HT.out; have g := hge; (try simp only [Int.natCast_add] at g); simp [g, this])⟩
                case measure => simp [intOf]; omega
              | false =>
                have HT : Hid (to ≠ -1) := by simpa [Hid] using hto
                go_wp2_with (first | rw [hx])
                go_roundw
                case rel => exact ⟨j + fr + 1, F, (j : Int), by omega, by go_num, rfl, rfl, HFI2.out, HLI2.out, HBN.out _, HN.out _ _ _ HFI2.out HLI2.out (by have := HT.out; have g := hge; (try simp only [Int.natCast_add] at g); simp [g, this])⟩
                case measure => simp [intOf]; omega
            · go_wp2_with (first | rw [hx])
              go_roundw
              case rel => exact ⟨j + fr + 1, F, (j : Int), by omega, by go_num, rfl, rfl, HFI2.out, HLI2.out, HBN.out _, HN.out _ _ _ HFI2.out HLI2.out (by have g := hge; (try simp only [Int.natCast_add] at g); simp [g])⟩
              case measure => simp [intOf]; omega
          | false =>
            have HLI2 : Hid (LastIs q fr (j + fr + 1) L) := HLI.out.no hqj
            rw [hqj] at hd
            by_cases hge : (F : Int) ≤ L
            · cases hto : (to == -1) with
              | true =>
                have HT : Hid (to = -1) := by simpa [Hid] using hto
                go_wp2_with (first | rw [hx])
                go_roundw
                case rel => exact ⟨j + fr + 1, F, L, by omega, by go_num, rfl, rfl, HFI2.out, HLI2.out, HBN.out _, HN.out _ _ _ HFI2.out HLI2.out (by have := HT.out; have g := hge; (try simp only [Int.natCast_add] at g); simp [g, this])⟩
                case measure => simp [intOf]; omega
              | false =>
                have HT : Hid (to ≠ -1) := by simpa [Hid] using hto
                go_wp2_with (first | rw [hx])
                go_roundw
                case rel => exact ⟨j + fr + 1, F, L, by omega, by go_num, rfl, rfl, HFI2.out, HLI2.out, HBN.out _, HN.out _ _ _ HFI2.out HLI2.out (by have := HT.out; have g := hge; (try simp only [Int.natCast_add] at g); simp [g, this])⟩
                case measure => simp [intOf]; omega
            · go_wp2_with (first | rw [hx])
              go_roundw
              case rel => exact ⟨j + fr + 1, F, L, by omega, by go_num, rfl, rfl, HFI2.out, HLI2.out, HBN.out _, HN.out _ _ _ HFI2.out HLI2.out (by have g := hge; (try simp only [Int.natCast_add] at g); simp [g])⟩
              case measure => simp [intOf]; omega
        · have HLI2 : Hid (LastIs q fr (k + 1) L) := HLI.out.out (by omega)
          by_cases hge : (F : Int) ≤ L
          · cases hto : (to == -1) with
            | true =>
              have HT : Hid (to = -1) := by simpa [Hid] using hto
              go_wp2
              go_roundw
              case rel => exact ⟨k + 1, F, L, by omega, by go_num, rfl, rfl, HFI2.out, HLI2.out, HBN.out _, HN.out _ _ _ HFI2.out HLI2.out (by have := HT.out; have g := hge; (try simp only [Int.natCast_add] at g); simp [g, this])⟩
              case measure => simp [intOf]; omega
            | false =>
              have HT : Hid (to ≠ -1) := by simpa [Hid] using hto
              go_wp2
              go_roundw
              case rel => exact ⟨k + 1, F, L, by omega, by go_num, rfl, rfl, HFI2.out, HLI2.out, HBN.out _, HN.out _ _ _ HFI2.out HLI2.out (by have := HT.out; have g := hge; (try simp only [Int.natCast_add] at g); simp [g, this])⟩
              case measure => simp [intOf]; omega
          · go_wp2
            go_roundw
            case rel => exact ⟨k + 1, F, L, by omega, by go_num, rfl, rfl, HFI2.out, HLI2.out, HBN.out _, HN.out _ _ _ HFI2.out HLI2.out (by have g := hge; (try simp only [Int.natCast_add] at g); simp [g])⟩
            case measure => simp [intOf]; omega
      | false =>
        have HFI2 : Hid (FirstIs p (k + 1) k) := HFI.out.no hpk
        rw [hpk] at hc
        by_cases hfk : fr ≤ k
        · obtain ⟨j, rfl⟩ : ∃ j, k = j + fr := ⟨k - fr, by omega⟩
          have hx : ((j + fr : Nat) : Int) - fr = j := by omega
          obtain ⟨b2, off2, rfl, hd⟩ := HQ.out _ HBk.out j (by omega)
          cases hqj : q j with
          | true =>
            have HLI2 : Hid (LastIs q fr (j + fr + 1) (j : Int)) := HLI.out.yes hqj
            rw [hqj] at hd
            by_cases hge : ((j + fr : Nat) : Int) ≤ (j : Int)
            · cases hto : (to == -1) with
              | true =>
                have HT : Hid (to = -1) := by simpa [Hid] using hto
                go_wp2_with (first | rw [hx])
                go_roundw
                case rel => exact ⟨j + fr + 1, (j + fr : Nat), (j : Int), by omega, by go_num, rfl, rfl, HFI2.out, HLI2.out, HBN.out _, HN.out _ _ _ HFI2.out HLI2.out (by have := HT.out; have g := hge; (try simp only [Int.natCast_add] at g); simp [g, this])⟩
                case measure => simp [intOf]; omega
              | false =>
                have HT : Hid (to ≠ -1) := by simpa [Hid] using hto
                go_wp2_with (first | rw [hx])
                go_roundw
                case rel => exact ⟨j + fr + 1, (j + fr : Nat), (j : Int), by omega, by go_num, rfl, rfl, HFI2.out, HLI2.out, HBN.out _, HN.out _ _ _ HFI2.out HLI2.out (by have := HT.out; have g := hge; (try simp only [Int.natCast_add] at g); simp [g, this])⟩
                case measure => simp [intOf]; omega
            · go_wp2_with (first | rw [hx])
              go_roundw
              case rel => exact ⟨j + fr + 1, (j + fr : Nat), (j : Int), by omega, by go_num, rfl, rfl, HFI2.out, HLI2.out, HBN.out _, HN.out _ _ _ HFI2.out HLI2.out (by have g := hge; (try simp only [Int.natCast_add] at g); simp [g])⟩
              case measure => simp [intOf]; omega
          | false =>
            have HLI2 : Hid (LastIs q fr (j + fr + 1) L) := HLI.out.no hqj
            rw [hqj] at hd
            by_cases hge : ((j + fr : Nat) : Int) ≤ L
            · cases hto : (to == -1) with
              | true =>
                have HT : Hid (to = -1) := by simpa [Hid] using hto
                go_wp2_with (first | rw [hx])
                go_roundw
                case rel => exact ⟨j + fr + 1, (j + fr : Nat), L, by omega, by go_num, rfl, rfl, HFI2.out, HLI2.out, HBN.out _, HN.out _ _ _ HFI2.out HLI2.out (by have := HT.out; have g := hge; (try simp only [Int.natCast_add] at g); simp [g, this])⟩
                case measure => simp [intOf]; omega
              | false =>
                have HT : Hid (to ≠ -1) := by simpa [Hid] using hto
                go_wp2_with (first | rw [hx])
                go_roundw
                case rel => exact ⟨j + fr + 1, (j + fr : Nat), L, by omega, by go_num, rfl, rfl, HFI2.out, HLI2.out, HBN.out _, HN.out _ _ _ HFI2.out HLI2.out (by have := HT.out; have g := hge; (try simp only [Int.natCast_add] at g); simp [g, this])⟩
                case measure => simp [intOf]; omega
            · go_wp2_with (first | rw [hx])
              go_roundw
              case rel => exact ⟨j + fr + 1, (j + fr : Nat), L, by omega, by go_num, rfl, rfl, HFI2.out, HLI2.out, HBN.out _, HN.out _ _ _ HFI2.out HLI2.out (by have g := hge; (try simp only [Int.natCast_add] at g); simp [g])⟩
              case measure => simp [intOf]; omega
        · have HLI2 : Hid (LastIs q fr (k + 1) L) := HLI.out.out (by omega)
          by_cases hge : (k : Int) ≤ L
          · cases hto : (to == -1) with
            | true =>
              have HT : Hid (to = -1) := by simpa [Hid] using hto
              go_wp2
              go_roundw
              case rel => exact ⟨k + 1, k, L, by omega, by go_num, rfl, rfl, HFI2.out, HLI2.out, HBN.out _, HN.out _ _ _ HFI2.out HLI2.out (by have := HT.out; have g := hge; (try simp only [Int.natCast_add] at g); simp [g, this])⟩
              case measure => simp [intOf]; omega
            | false =>
              have HT : Hid (to ≠ -1) := by simpa [Hid] using hto
              go_wp2
              go_roundw
              case rel => exact ⟨k + 1, k, L, by omega, by go_num, rfl, rfl, HFI2.out, HLI2.out, HBN.out _, HN.out _ _ _ HFI2.out HLI2.out (by have := HT.out; have g := hge; (try simp only [Int.natCast_add] at g); simp [g, this])⟩
              case measure => simp [intOf]; omega
          · go_wp2
            go_roundw
            case rel => exact ⟨k + 1, k, L, by omega, by go_num, rfl, rfl, HFI2.out, HLI2.out, HBN.out _, HN.out _ _ _ HFI2.out HLI2.out (by have g := hge; (try simp only [Int.natCast_add] at g); simp [g])⟩
            case measure => simp [intOf]; omega
    · have hkk : k = n := by omega
      have HFn : Hid (FillB wr W.heap.size n n (sinceF fr to p q)) := by have := HFk.out; rwa [hkk] at this
      clear hkk
      go_wp2
      go_ret
      exact ⟨W.heap.size, rfl, Nat.le_refl _, HFn.out.row, HBk.out⟩
end Go.Proofs.Ytipbjoeekbgnbaa
