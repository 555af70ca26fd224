/- The contracts of trace's lists of truth values: constant, not, or, before, since. Conditions: at most 1000 places. -/
import Derived.Test.YtipbjoeekbgnbaaBz6
import Derived.Deep.RegionHeld3
import Derived.Laws.Externs
namespace Go.Proofs.Ytipbjoeekbgnbaa
open Go.RowKit
set_option linter.unusedVariables false
set_option maxRecDepth 100000

/-- Truth values in memory, one a place. -/
def BoRow (w : World) (a : Option Addr) (n : Nat) (f : Nat → Bool) : Prop := ∀ i, i < n → ∃ b off, a = some ⟨b, off, none⟩ ∧ w.cell? ⟨b, off + i, none⟩ = some (.bool (f i))
theorem BoRow.below {w w' : World} {a : Option Addr} {n : Nat} {f : Nat → Bool} (h : BoRow w a n f) (k : Below w.heap.size w w') : BoRow w' a n f := fun i hi => by
  obtain ⟨b, off, e, hc⟩ := h i hi
  exact ⟨b, off, e, cell_up k hc⟩
/-- A list of truth values that is filled up to k. -/
structure FillB (w : World) (g n k : Nat) (f : Nat → Bool) : Prop where
  cell : ∀ i, i < n → w.cell? ⟨g, i, none⟩ = some (.bool (decide (i < k) && f i))
  frz : ∀ i, w.frozen? ⟨g, i, none⟩ = false
theorem infoBool : (Try.prog.info? 4).map (fun i => (i.zero, i.size, i.bytes)) = some (some (.bool false), 1, 1) := by kernel_rfl
/-- 'make([]bool, n)' in a walk. -/
theorem wpList_mkB (w : World) {ops : Array Oper} {rest : List Oper} {o : Oper} {a : Act} {Q : Exit → Act → World → Prop} (hg : o.guard = none) (l c : Operand) (hop : o.op = Op.makeSlice 77 l c) (n : Nat) (hl : a.eval l = .int .i64 n) (hc : a.eval c = .int .i64 n) (hn : n ≤ 1000)
    (hK : ∀ w', (∀ f, FillB w' w.heap.size n 0 f) → Below w.heap.size w w' → w.heap.size < w'.heap.size → wpList Try.prog ops Q rest (a.put o.dst (.slice (some ⟨w.heap.size, 0, none⟩) n n)) w') :
    wpList Try.prog ops Q (o :: rest) a w := by
  obtain ⟨i0, hi, hz0, hz1, hz2⟩ := info_parts infoBool
  refine wpList_make_full (P := Try.prog) w hg l c 77 hop w.heap.size 4 i0 (.bool false) 1 Try.underlying77 hi hz0 hz1 .i64 .i64 n n n hl hc rfl rfl (by rw [hz2]; omega) (by unfold maxLen; omega) (Nat.le_refl _) fun w' ho hgr => ?_
  refine hK w' (fun f => ⟨fun i hi => ?_, fun i => ho.frozenAt i⟩) ((Below.refl _ w).grown hgr (Nat.le_refl _) (fun k hk => by cases hk)) (ho.lt _ rfl).2
  rw [ho.cellAt i (by omega), show (Value.bool false).cells = #[.bool false] from rfl, toList_madeCells_one]
  simp [hi]
theorem FillB.step {w : World} {g n k : Nat} {f : Nat → Bool} (h : FillB w g n k f) (hk : k < n) (b : Bool) (hb : b = f k) : FillB (w.setCell ⟨g, k, none⟩ (.bool b)) g n (k + 1) f := by
  refine ⟨fun i hi => ?_, fun i => by simp [h.frz]⟩
  by_cases e : i = k
  · subst e
    rw [World.cell?_setCell_same _ _ _ (h.cell i hi), hb]
    simp
  · rw [World.cell?_setCell_other _ _ _ _ (by intro e2; rw [Addr.mk.injEq] at e2; omega), h.cell i hi]
    have : decide (i < k + 1) = decide (i < k) := by
      by_cases q : i < k
      · rw [decide_eq_true q, decide_eq_true (by omega)]
      · rw [decide_eq_false q, decide_eq_false (by omega)]
    rw [this]
theorem FillB.row {w : World} {g n : Nat} {f : Nat → Bool} (h : FillB w g n n f) : BoRow w (some ⟨g, 0, none⟩) n f := fun i hi => ⟨g, 0, rfl, by rw [Nat.zero_add, h.cell i hi]; simp [hi]⟩
/-- A new list of truth values is told. -/
def BoTells (W : World) (n : Nat) (f : Nat → Bool) (e : Ending) (W' : World) : Prop := ∃ g, e = .returned (.slice (some ⟨g, 0, none⟩) n n) ∧ W.heap.size ≤ g ∧ BoRow W' (some ⟨g, 0, none⟩) n f ∧ Below W.heap.size W W'
set_option maxHeartbeats 2000000 in
theorem not_tells (a : Option Addr) (n cap : Nat) (p : Nat → Bool) (W : World) (h : BoRow W a n p) (hn : n ≤ 1000) :
    Calls Try.prog 58 #[.slice a n cap] W (BoTells W n fun i => !p i) := by
  have HP : Hid (∀ X, Below W.heap.size W X → BoRow X a n p) := fun X hX => h.below hX
  clear h
  go_enter Try.func58, Try.ntmps58
  go_wp2_with (at_make; refine wpList_mkB _ rfl _ _ rfl n rfl rfl hn ?_; intro w1 hf1 hb1 hl1)
  have HF : Hid (FillB w1 W.heap.size n 0 fun i => !p i) := hf1 _
  have HB : Hid (Below W.heap.size W w1) := hb1
  clear hf1 hb1
  go_loopw [10] (fun i wr => ∃ k : Nat, k ≤ n ∧ i = .int .i64 k ∧ Below W.heap.size W wr ∧ FillB wr W.heap.size n k fun i => !p i) (fun i _ => n - (intOf i).toNat)
  case atStart => exact ⟨0, Nat.zero_le _, rfl, HB.out, HF.out⟩
  case round =>
    obtain ⟨k, hk, rfl, hb, hf⟩ := hrel
    have HBk : Hid (Below W.heap.size W wr) := hb
    have HFk : Hid (FillB wr W.heap.size n k fun i => !p i) := hf
    clear hb hf
    by_cases hlt : k < n
    · obtain ⟨b, off, rfl, hc⟩ := HP.out _ HBk.out k hlt
      have hf := HFk.out.frz k
      have hc2 := HFk.out.cell k hlt
      have HN : Hid (FillB (wr.setCell ⟨W.heap.size, k, none⟩ (.bool (!p k))) W.heap.size n (k + 1) fun i => !p i) := HFk.out.step hlt _ rfl
      have HBN : Hid (Below W.heap.size W (wr.setCell ⟨W.heap.size, k, none⟩ (.bool (!p k)))) := HBk.out.setCell (Nat.le_refl _) _
      go_wp2
      go_roundw
      case rel => exact ⟨k + 1, by omega, by go_num, HBN.out, HN.out⟩
      case measure => simp [intOf]; omega
    · have hkk : k = n := by omega
      have HFn : Hid (FillB wr W.heap.size n n fun i => !p i) := by have := HFk.out; rwa [hkk] at this
      clear hkk
      go_wp2
      go_ret
      exact ⟨W.heap.size, rfl, Nat.le_refl _, HFn.out.row, HBk.out⟩
set_option maxHeartbeats 2000000 in
theorem constant_tells (a : Option Addr) (n cap : Nat) (v : Bool) (W : World) (hn : n ≤ 1000) :
    Calls Try.prog 55 #[.slice a n cap, .bool v] W (BoTells W n fun _ => v) := by
  go_enter Try.func55, Try.ntmps55
  go_wp2_with (at_make; refine wpList_mkB _ rfl _ _ rfl n rfl rfl hn ?_; intro w1 hf1 hb1 hl1)
  have HF : Hid (FillB w1 W.heap.size n 0 fun _ => v) := hf1 _
  have HB : Hid (Below W.heap.size W w1) := hb1
  clear hf1 hb1
  go_loopw [12] (fun i wr => ∃ k : Nat, k ≤ n ∧ i = .int .i64 k ∧ Below W.heap.size W wr ∧ FillB wr W.heap.size n k fun _ => v) (fun i _ => n - (intOf i).toNat)
  case atStart => exact ⟨0, Nat.zero_le _, rfl, HB.out, HF.out⟩
  case round =>
    obtain ⟨k, hk, rfl, hb, hf⟩ := hrel
    have HBk : Hid (Below W.heap.size W wr) := hb
    have HFk : Hid (FillB wr W.heap.size n k fun _ => v) := hf
    clear hb hf
    by_cases hlt : k < n
    · have hf := HFk.out.frz k
      have hc2 := HFk.out.cell k hlt
      have HN : Hid (FillB (wr.setCell ⟨W.heap.size, k, none⟩ (.bool v)) W.heap.size n (k + 1) fun _ => v) := HFk.out.step hlt _ rfl
      have HBN : Hid (Below W.heap.size W (wr.setCell ⟨W.heap.size, k, none⟩ (.bool v))) := HBk.out.setCell (Nat.le_refl _) _
      go_wp2
      go_roundw
      case rel => exact ⟨k + 1, by omega, by go_num, HBN.out, HN.out⟩
      case measure => simp [intOf]; omega
    · have hkk : k = n := by omega
      have HFn : Hid (FillB wr W.heap.size n n fun _ => v) := by have := HFk.out; rwa [hkk] at this
      clear hkk
      go_wp2
      go_ret
      exact ⟨W.heap.size, rfl, Nat.le_refl _, HFn.out.row, HBk.out⟩
set_option maxHeartbeats 2000000 in
theorem or_tells (a a2 : Option Addr) (n cap cap2 : Nat) (p q : Nat → Bool) (W : World) (h : BoRow W a n p) (h2 : BoRow W a2 n q) (hn : n ≤ 1000) :
    Calls Try.prog 59 #[.slice a n cap, .slice a2 n cap2] W (BoTells W n fun i => p i || q i) := by
  have HP : Hid (∀ X, Below W.heap.size W X → BoRow X a n p) := fun X hX => h.below hX
  have HQ : Hid (∀ X, Below W.heap.size W X → BoRow X a2 n q) := fun X hX => h2.below hX
  clear h h2
  go_enter Try.func59, Try.ntmps59
  go_wp2_with (at_make; refine wpList_mkB _ rfl _ _ rfl n rfl rfl hn ?_; intro w1 hf1 hb1 hl1)
  have HF : Hid (FillB w1 W.heap.size n 0 fun i => p i || q i) := hf1 _
  have HB : Hid (Below W.heap.size W w1) := hb1
  clear hf1 hb1
  go_loopw [12] (fun i wr => ∃ k : Nat, k ≤ n ∧ i = .int .i64 k ∧ Below W.heap.size W wr ∧ FillB wr W.heap.size n k fun i => p i || q i) (fun i _ => n - (intOf i).toNat)
  case atStart => exact ⟨0, Nat.zero_le _, rfl, HB.out, HF.out⟩
  case round =>
    obtain ⟨k, hk, rfl, hb, hf⟩ := hrel
    have HBk : Hid (Below W.heap.size W wr) := hb
    have HFk : Hid (FillB wr W.heap.size n k fun i => p i || q i) := hf
    clear hb hf
    by_cases hlt : k < n
    · obtain ⟨b, off, rfl, hc⟩ := HP.out _ HBk.out k hlt
      obtain ⟨b2, off2, rfl, hd⟩ := HQ.out _ HBk.out k hlt
      have hf := HFk.out.frz k
      have hc2 := HFk.out.cell k hlt
      have HN : Hid (∀ r, r = (p k || q k) → FillB (wr.setCell ⟨W.heap.size, k, none⟩ (.bool r)) W.heap.size n (k + 1) fun i => p i || q i) := fun r hr => HFk.out.step hlt _ hr
      have HBN : Hid (∀ r, Below W.heap.size W (wr.setCell ⟨W.heap.size, k, none⟩ (.bool r))) := fun r => HBk.out.setCell (Nat.le_refl _) _
      generalize p k = pk at *
      generalize q k = qk at *
      cases pk with
      | true =>
        go_wp2
        go_roundw
        case rel => exact ⟨k + 1, by omega, by go_num, HBN.out _, HN.out _ (by simp)⟩
        case measure => simp [intOf]; omega
      | false =>
        go_wp2
        go_roundw
        case rel => exact ⟨k + 1, by omega, by go_num, HBN.out _, HN.out _ (by simp)⟩
        case measure => simp [intOf]; omega
    · have hkk : k = n := by omega
      have HFn : Hid (FillB wr W.heap.size n n fun i => p i || q i) := by have := HFk.out; rwa [hkk] at this
      clear hkk
      go_wp2
      go_ret
      exact ⟨W.heap.size, rfl, Nat.le_refl _, HFn.out.row, HBk.out⟩
def prevF (p : Nat → Bool) (i : Nat) : Bool := decide (0 < i) && p (i - 1)
set_option maxHeartbeats 2000000 in
theorem before_tells (a : Option Addr) (n cap : Nat) (p : Nat → Bool) (W : World) (h : BoRow W a n p) (hn : n ≤ 1000) :
    Calls Try.prog 56 #[.slice a n cap] W (BoTells W n (prevF p)) := by
  have HP : Hid (∀ X, Below W.heap.size W X → BoRow X a n p) := fun X hX => h.below hX
  clear h
  go_enter Try.func56, Try.ntmps56
  go_wp2_with (at_make; refine wpList_mkB _ rfl _ _ rfl n rfl rfl hn ?_; intro w1 hf1 hb1 hl1)
  have HF : Hid (FillB w1 W.heap.size n 0 (prevF p)) := hf1 _
  have HB : Hid (Below W.heap.size W w1) := hb1
  clear hf1 hb1
  go_loopw [10] (fun i wr => ∃ k : Nat, k ≤ n ∧ i = .int .i64 k ∧ Below W.heap.size W wr ∧ FillB wr W.heap.size n k (prevF p)) (fun i _ => n - (intOf i).toNat)
  case atStart => exact ⟨0, Nat.zero_le _, rfl, HB.out, HF.out⟩
  case round =>
    obtain ⟨k, hk, rfl, hb, hf⟩ := hrel
    have HBk : Hid (Below W.heap.size W wr) := hb
    have HFk : Hid (FillB wr W.heap.size n k (prevF p)) := hf
    clear hb hf
    by_cases hlt : k < n
    · have hf := HFk.out.frz k
      have hc2 := HFk.out.cell k hlt
      have HN : Hid (∀ r, r = prevF p k → FillB (wr.setCell ⟨W.heap.size, k, none⟩ (.bool r)) W.heap.size n (k + 1) (prevF p)) := fun r hr => HFk.out.step hlt _ hr
      have HBN : Hid (∀ r, Below W.heap.size W (wr.setCell ⟨W.heap.size, k, none⟩ (.bool r))) := fun r => HBk.out.setCell (Nat.le_refl _) _
      generalize prevF p k = pk at hc2
      cases k with
      | zero =>
        go_wp2
        go_roundw
        case rel => exact ⟨1, by omega, by go_num, HBN.out _, HN.out _ (by simp [prevF])⟩
        case measure => simp [intOf]; omega
      | succ k =>
        obtain ⟨b, off, rfl, hc⟩ := HP.out _ HBk.out k (by omega)
        have hx : ((k + 1 : Nat) : Int) - 1 = k := by omega
        go_wp2_with (first | rw [hx])
        go_roundw
        case rel => exact ⟨k + 1 + 1, by omega, by go_num, HBN.out _, HN.out _ (by simp [prevF])⟩
        case measure => simp [intOf]; omega
    · have hkk : k = n := by omega
      have HFn : Hid (FillB wr W.heap.size n n (prevF p)) := by have := HFk.out; rwa [hkk] at this
      clear hkk
      go_wp2
      go_ret
      exact ⟨W.heap.size, rfl, Nat.le_refl _, HFn.out.row, HBk.out⟩
end Go.Proofs.Ytipbjoeekbgnbaa

namespace Go.Proofs.Ytipbjoeekbgnbaa
open Go.RowKit
set_option linter.unusedVariables false
set_option maxRecDepth 100000

theorem prod_bound {x y : Int} (hx : B64 x) (hy : B64 y) : -85070591730234615865843651857942052864 ≤ x * y ∧ x * y ≤ 85070591730234615865843651857942052864 := by
  unfold B64 at hx hy
  have h := Nat.mul_le_mul (show x.natAbs ≤ 9223372036854775808 by omega) (show y.natAbs ≤ 9223372036854775808 by omega)
  rw [← Int.natAbs_mul] at h
  have e : 9223372036854775808 * 9223372036854775808 = 85070591730234615865843651857942052864 := rfl
  rw [e] at h
  omega
def hi1 (x y hi : Int) : Int := if x < 0 then IntKind.u64.wrap (hi - IntKind.u64.wrap y) else hi
def hi2 (x y hi : Int) : Int := if y < 0 then IntKind.u64.wrap (hi1 x y hi - IntKind.u64.wrap x) else hi1 x y hi
theorem hi_is {x y hi : Int} (hx : B64 x) (hy : B64 y) (hh : hi = x % 18446744073709551616 * (y % 18446744073709551616) / 18446744073709551616) : wrap64 (hi2 x y hi) = x * y / 18446744073709551616 := by
  have hb := prod_bound hx hy
  unfold B64 at hx hy
  unfold hi2 hi1
  by_cases h1 : x < 0
  · rw [if_pos h1]
    have ex : x % 18446744073709551616 = x + 18446744073709551616 := by omega
    by_cases h2 : y < 0
    · have ey : y % 18446744073709551616 = y + 18446744073709551616 := by omega
      rw [if_pos h2]
      rw [ex, ey, Int.mul_add, Int.add_mul, Int.add_mul] at hh
      simp only [wrap64, IntKind.wrap_u64]
      generalize x * y = P at *
      omega
    · have ey : y % 18446744073709551616 = y := by omega
      rw [if_neg h2]
      rw [ex, ey, Int.add_mul] at hh
      simp only [wrap64, IntKind.wrap_u64]
      generalize x * y = P at *
      omega
  · rw [if_neg h1]
    have ex : x % 18446744073709551616 = x := by omega
    by_cases h2 : y < 0
    · have ey : y % 18446744073709551616 = y + 18446744073709551616 := by omega
      rw [if_pos h2]
      rw [ex, ey, Int.mul_add] at hh
      simp only [wrap64, IntKind.wrap_u64]
      generalize x * y = P at *
      omega
    · have ey : y % 18446744073709551616 = y := by omega
      rw [if_neg h2]
      rw [ex, ey] at hh
      simp only [wrap64]
      generalize x * y = P at *
      omega
theorem mul64_any (x y : Int) (X : World) : Calls Try.prog 34 #[.int .u64 (x % 18446744073709551616), .int .u64 (y % 18446744073709551616)] X fun e W' => e = .returned (.tuple #[.int .u64 (x % 18446744073709551616 * (y % 18446744073709551616) / 18446744073709551616), .int .u64 (x * y % 18446744073709551616)]) ∧ W' = X := by
  obtain ⟨a, ha⟩ : ∃ a : Nat, x % 18446744073709551616 = a := ⟨(x % 18446744073709551616).toNat, by omega⟩
  obtain ⟨b, hb⟩ : ∃ b : Nat, y % 18446744073709551616 = b := ⟨(y % 18446744073709551616).toNat, by omega⟩
  have e : x * y % 18446744073709551616 = ((a * b % 18446744073709551616 : Nat) : Int) := by rw [Int.mul_emod, ha, hb]; simp
  rw [e, ha, hb]
  refine (Try.bits_Mul64 a b (by omega) (by omega) X).mono ?_
  rintro e W' ⟨rfl, rfl⟩
  exact ⟨by simp, rfl⟩
/-- A product in two halves. -/
def prV (v : Int) : Value := .agg #[.int .i64 (v / 18446744073709551616), .int .u64 (v % 18446744073709551616)]
set_option maxHeartbeats 4000000 in
theorem ttimes_any (x y : Int) (W : World) (hx : B64 x) (hy : B64 y) :
    Calls Try.prog 20 #[.int .i64 x, .int .i64 y] W fun e W' => e = .returned (prV (x * y)) ∧ Below W.heap.size W W' := by
  have HM : Hid (∀ X, Calls Try.prog 34 #[.int .u64 (x % 18446744073709551616), .int .u64 (y % 18446744073709551616)] X fun e W' => e = .returned (.tuple #[.int .u64 (x % 18446744073709551616 * (y % 18446744073709551616) / 18446744073709551616), .int .u64 (x * y % 18446744073709551616)]) ∧ W' = X) := fun X => mul64_any x y X
  have HE := hi_is hx hy rfl
  have HP : Hid (prV (x * y) = .agg #[.int .i64 (x * y / 18446744073709551616), .int .u64 (x * y % 18446744073709551616)]) := rfl
  unfold hi2 hi1 at HE
  generalize x * y / 18446744073709551616 = r at *
  generalize x % 18446744073709551616 * (y % 18446744073709551616) / 18446744073709551616 = hi at *
  generalize x * y % 18446744073709551616 = lo at *
  generalize prV (x * y) = res at *
  have HB : Hid (Below W.heap.size W (W.alloc (.cells #[.int .i64 0, .int .u64 0] 63))) := (Below.refl _ _).alloc (Nat.le_refl _) _
  by_cases h1 : x < 0
  · by_cases h2 : y < 0
    · rw [if_pos h1, if_pos h2] at HE
      have HEE : Hid _ := HE
      clear HE
      go_enter Try.func20, Try.ntmps20
      go_wp2_with (go_at_call 34; refine (HM.out _).mono ?_; rintro e w' ⟨rfl, hw9⟩; subst w')
      refine bodyPost_ret (v := .agg #[.int .i64 r, .int .u64 lo]) (by simp [results, Try.results20, go_sem]; exact HEE.out) rfl ⟨by rw [HP.out], ?_⟩
      exact (Below.refl _ _).alloc (Nat.le_refl _) _
    · rw [if_pos h1, if_neg h2] at HE
      have HEE : Hid _ := HE
      clear HE
      go_enter Try.func20, Try.ntmps20
      go_wp2_with (go_at_call 34; refine (HM.out _).mono ?_; rintro e w' ⟨rfl, hw9⟩; subst w')
      refine bodyPost_ret (v := .agg #[.int .i64 r, .int .u64 lo]) (by simp [results, Try.results20, go_sem]; exact HEE.out) rfl ⟨by rw [HP.out], ?_⟩
      exact (Below.refl _ _).alloc (Nat.le_refl _) _
  · by_cases h2 : y < 0
    · rw [if_neg h1, if_pos h2] at HE
      have HEE : Hid _ := HE
      clear HE
      go_enter Try.func20, Try.ntmps20
      go_wp2_with (go_at_call 34; refine (HM.out _).mono ?_; rintro e w' ⟨rfl, hw9⟩; subst w')
      refine bodyPost_ret (v := .agg #[.int .i64 r, .int .u64 lo]) (by simp [results, Try.results20, go_sem]; exact HEE.out) rfl ⟨by rw [HP.out], ?_⟩
      exact (Below.refl _ _).alloc (Nat.le_refl _) _
    · rw [if_neg h1, if_neg h2] at HE
      have HEE : Hid _ := HE
      clear HE
      go_enter Try.func20, Try.ntmps20
      go_wp2_with (go_at_call 34; refine (HM.out _).mono ?_; rintro e w' ⟨rfl, hw9⟩; subst w')
      refine bodyPost_ret (v := .agg #[.int .i64 r, .int .u64 lo]) (by simp [results, Try.results20, go_sem]; exact HEE.out) rfl ⟨by rw [HP.out], ?_⟩
      exact (Below.refl _ _).alloc (Nat.le_refl _) _
end Go.Proofs.Ytipbjoeekbgnbaa

namespace Go.Proofs.Ytipbjoeekbgnbaa
open Go.RowKit
set_option linter.unusedVariables false
set_option maxRecDepth 100000

theorem add64_call (x y c : Int) (hx : 0 ≤ x) (hy : 0 ≤ y) (hc0 : 0 ≤ c) (hc : c ≤ 1) (w : World) : (callFunc 35 #[.int .u64 x, .int .u64 y, .int .u64 c]).run Try.prog w = .ok (.value (.tuple #[.int .u64 ((x + y + c) % 18446744073709551616), .int .u64 ((x + y + c) / 18446744073709551616)])) w := by
  rw [run_callFunc_extern Try.func35 (by kernel_rfl) (by kernel_rfl) (by kernel_rfl) (e := add64Entry) (by kernel_rfl), run_add64 x y c hx hy hc0 hc]
  rfl
/-- A sum in three words. -/
def toV (S : Int) : Value := .agg #[.int .i64 (S / 340282366920938463463374607431768211456), .int .u64 (S / 18446744073709551616 % 18446744073709551616), .int .u64 (S % 18446744073709551616)]
/-- A product that fits. -/
def PrFit (v : Int) : Prop := -85070591730234615865843651857942052864 ≤ v ∧ v ≤ 85070591730234615865843651857942052864
/-- Products in memory. -/
def PrRow (w : World) (a : Option Addr) (vs : List Int) : Prop := ∀ i, i < vs.length → ∃ b off, a = some ⟨b, off, none⟩ ∧ w.cell? ⟨b, off + i * 2, none⟩ = some (.int .i64 (vs.getD i 0 / 18446744073709551616)) ∧ w.cell? ⟨b, off + i * 2 + 1, none⟩ = some (.int .u64 (vs.getD i 0 % 18446744073709551616))
theorem PrRow.below {w w' : World} {a : Option Addr} {vs : List Int} (h : PrRow w a vs) (k : Below w.heap.size w w') : PrRow w' a vs := fun i hi => by
  obtain ⟨b, off, e, h1, h2⟩ := h i hi
  exact ⟨b, off, e, cell_up k h1, cell_up k h2⟩
theorem cellO (W : World) (c j b i : Nat) (v : Value) (h : i ≠ j) : (W.setCell ⟨c, j, none⟩ v).cell? ⟨b, i, none⟩ = W.cell? ⟨b, i, none⟩ :=
  World.cell?_setCell_other _ _ _ _ (by intro e; rw [Addr.mk.injEq] at e; omega)
theorem cellB (W : World) (c j b i : Nat) (v : Value) (h : b ≠ c) : (W.setCell ⟨c, j, none⟩ v).cell? ⟨b, i, none⟩ = W.cell? ⟨b, i, none⟩ :=
  World.cell?_setCell_other _ _ _ _ (by intro e; rw [Addr.mk.injEq] at e; omega)
/-- Three cells in memory. -/
structure TotC (w : World) (s : Nat) (x y z : Value) : Prop where
  c0 : w.cell? ⟨s, 0, none⟩ = some x
  c1 : w.cell? ⟨s, 1, none⟩ = some y
  c2 : w.cell? ⟨s, 2, none⟩ = some z
  f : ∀ i, w.frozen? ⟨s, i, none⟩ = false
theorem TotC.st0 {w : World} {s : Nat} {x y z : Value} (h : TotC w s x y z) (u : Value) : TotC (w.setCell ⟨s, 0, none⟩ u) s u y z :=
  ⟨World.cell?_setCell_same _ _ _ h.c0, by rw [cellO _ _ _ _ _ _ (by omega)]; exact h.c1, by rw [cellO _ _ _ _ _ _ (by omega)]; exact h.c2, fun i => by simp [h.f]⟩
theorem TotC.st1 {w : World} {s : Nat} {x y z : Value} (h : TotC w s x y z) (u : Value) : TotC (w.setCell ⟨s, 1, none⟩ u) s x u z :=
  ⟨by rw [cellO _ _ _ _ _ _ (by omega)]; exact h.c0, World.cell?_setCell_same _ _ _ h.c1, by rw [cellO _ _ _ _ _ _ (by omega)]; exact h.c2, fun i => by simp [h.f]⟩
theorem TotC.st2 {w : World} {s : Nat} {x y z : Value} (h : TotC w s x y z) (u : Value) : TotC (w.setCell ⟨s, 2, none⟩ u) s x y u :=
  ⟨by rw [cellO _ _ _ _ _ _ (by omega)]; exact h.c0, by rw [cellO _ _ _ _ _ _ (by omega)]; exact h.c1, World.cell?_setCell_same _ _ _ h.c2, fun i => by simp [h.f]⟩
theorem TotC.oth {w : World} {s : Nat} {x y z : Value} (h : TotC w s x y z) (b i : Nat) (hb : s ≠ b) (u : Value) : TotC (w.setCell ⟨b, i, none⟩ u) s x y z :=
  ⟨by rw [cellB _ _ _ _ _ _ hb]; exact h.c0, by rw [cellB _ _ _ _ _ _ hb]; exact h.c1, by rw [cellB _ _ _ _ _ _ hb]; exact h.c2, fun i => by simp [h.f]⟩
theorem TotC.bel {w w' : World} {s : Nat} {x y z : Value} (h : TotC w s x y z) (k : Below w.heap.size w w') : TotC w' s x y z :=
  ⟨cell_up k h.c0, cell_up k h.c1, cell_up k h.c2, fun i => by rw [k.frozen (p := ⟨s, i, none⟩) (show s < w.heap.size from World.block_lt_of_cell? w _ h.c0)]; exact h.f i⟩
theorem TotC.alloc {w : World} {s : Nat} {x y z : Value} (h : TotC w s x y z) (o : Obj) : TotC (w.alloc o) s x y z := h.bel ((Below.refl _ _).alloc (Nat.le_refl _) _)
/-- A sum in memory. -/
abbrev TotAt (w : World) (s : Nat) (S : Int) : Prop := TotC w s (.int .i64 (S / 340282366920938463463374607431768211456)) (.int .u64 (S / 18446744073709551616 % 18446744073709551616)) (.int .u64 (S % 18446744073709551616))
theorem TotC.tot {w : World} {s : Nat} {a b c S : Int} (h : TotC w s (.int .i64 a) (.int .u64 b) (.int .u64 c)) (ha : a = S / 340282366920938463463374607431768211456) (hb : b = S / 18446744073709551616 % 18446744073709551616) (hc : c = S % 18446744073709551616) : TotAt w s S := by
  subst ha hb hc; exact h
def sumTo (vs : List Int) (k : Nat) : Int := (vs.take k).sum
theorem sumTo_succ (vs : List Int) (k : Nat) (hk : k < vs.length) : sumTo vs (k + 1) = sumTo vs k + vs.getD k 0 := by
  unfold sumTo
  rw [List.take_add_one, List.sum_append]
  simp [List.getD_eq_getElem?_getD, hk]
theorem sumTo_fit (vs : List Int) (h : ∀ v ∈ vs, PrFit v) (k : Nat) (hk : k ≤ vs.length) : -85070591730234615865843651857942052864 * (k : Int) ≤ sumTo vs k ∧ sumTo vs k ≤ 85070591730234615865843651857942052864 * k := by
  induction k with
  | zero => simp [sumTo]
  | succ k ih =>
    rw [sumTo_succ vs k (by omega)]
    have h1 := ih (by omega)
    have h2 := h _ (getD_mem 0 (show k < vs.length by omega))
    unfold PrFit at h2
    omega
theorem words_of (S : Int) : ∃ a b c : Int, S = a + 18446744073709551616 * (b + 18446744073709551616 * c) ∧ (0 ≤ a ∧ a < 18446744073709551616) ∧ (0 ≤ b ∧ b < 18446744073709551616) ∧ S % 18446744073709551616 = a ∧ S / 18446744073709551616 % 18446744073709551616 = b ∧ S / 340282366920938463463374607431768211456 = c :=
  ⟨S % 18446744073709551616, S / 18446744073709551616 % 18446744073709551616, S / 340282366920938463463374607431768211456, by omega, by omega, by omega, rfl, rfl, rfl⟩
theorem top_is (S v c1 c2 u : Int) (hS : -365375409332725729550921208179070754913983135744 ≤ S ∧ S ≤ 365375409332725729550921208179070754913983135744) (hv : PrFit v) (hu : u = IntKind.u64.wrap (v / 18446744073709551616)) (h1 : c1 = (S % 18446744073709551616 + v % 18446744073709551616) / 18446744073709551616) (h2 : c2 = (S / 18446744073709551616 % 18446744073709551616 + u + c1) / 18446744073709551616) :
    (0 ≤ v / 18446744073709551616 → S / 340282366920938463463374607431768211456 + c2 = (S + v) / 340282366920938463463374607431768211456) ∧ (v / 18446744073709551616 < 0 → wrap64 (wrap64 (S / 340282366920938463463374607431768211456 + wrap64 c2) - 1) = (S + v) / 340282366920938463463374607431768211456) ∧
    (S / 18446744073709551616 % 18446744073709551616 + u + c1) % 18446744073709551616 = (S + v) / 18446744073709551616 % 18446744073709551616 := by
  unfold PrFit at hv
  rw [IntKind.wrap_u64] at hu
  obtain ⟨a, b, c, e, ha, hb, ea, eb, ec⟩ := words_of S
  obtain ⟨p, q, ev, hp, hq⟩ : ∃ p q : Int, v = p + 18446744073709551616 * q ∧ (0 ≤ p ∧ p < 18446744073709551616) ∧ v / 18446744073709551616 = q ∧ v % 18446744073709551616 = p := ⟨v % 18446744073709551616, v / 18446744073709551616, by omega, by omega, rfl, rfl⟩
  rw [hq.1] at hu ⊢
  rw [ea, hq.2] at h1
  rw [eb] at h2 ⊢
  rw [ec]
  have hc : -1073741825 ≤ c ∧ c ≤ 1073741825 := by omega
  have hqb : -4611686018427387905 ≤ q ∧ q ≤ 4611686018427387905 := by omega
  have hc1 : 0 ≤ c1 ∧ c1 ≤ 1 := by omega
  have hu2 : 0 ≤ u ∧ u < 18446744073709551616 := by omega
  have hc2 : 0 ≤ c2 ∧ c2 ≤ 1 := by omega
  clear hS hv ea eb ec hq
  have w2 : wrap64 c2 = c2 := by unfold wrap64; omega
  have w3 : wrap64 (c + c2) = c + c2 := by unfold wrap64; omega
  rw [w2, w3]
  refine ⟨fun h => ?_, fun h => ?_, ?_⟩
  · have hu3 : u = q := by omega
    have e2 : (S + v) / 340282366920938463463374607431768211456 = c + c2 := by omega
    rw [e2]
  · have hu3 : u = q + 18446744073709551616 := by omega
    have e2 : (S + v) / 340282366920938463463374607431768211456 = c + c2 - 1 := by omega
    rw [e2]; unfold wrap64; omega
  · have e2 : (S + v) / 18446744073709551616 = b + 18446744073709551616 * c + q + c1 := by omega
    rw [e2]
    omega
set_option maxHeartbeats 8000000 in
theorem tsum_any (a : Option Addr) (cap : Nat) (vs : List Int) (W : World) (h : PrRow W a vs) (hn : vs.length ≤ 4294967296) (hf : ∀ v ∈ vs, PrFit v) :
    Calls Try.prog 21 #[.slice a vs.length cap] W fun e W' => e = .returned (toV vs.sum) ∧ Below W.heap.size W W' := by
  have HP : Hid (∀ X, Below W.heap.size W X → PrRow X a vs) := fun X hX => h.below hX
  have HFIT : Hid (∀ v ∈ vs, PrFit v) := hf
  clear h hf
  have HB : Hid (Below W.heap.size W ((W.alloc (.cells #[.int .i64 0, .int .u64 0, .int .u64 0] 66)).alloc (.cells #[.int .i64 0, .int .u64 0, .int .u64 0] 66))) := ((Below.refl _ _).alloc (Nat.le_refl _) _).alloc (by simp) _
  have HT : Hid (TotAt ((W.alloc (.cells #[.int .i64 0, .int .u64 0, .int .u64 0] 66)).alloc (.cells #[.int .i64 0, .int .u64 0, .int .u64 0] 66)) (W.heap.size + 1) 0) := ⟨by simp [go_sem], by simp [go_sem], by simp [go_sem], fun i => by rw [show W.heap.size + 1 = (W.alloc (.cells #[.int .i64 0, .int .u64 0, .int .u64 0] 66)).heap.size by simp]; exact World.frozen?_alloc_at _ _ _ _ (by simp)⟩
  have HT0 : Hid (TotAt ((W.alloc (.cells #[.int .i64 0, .int .u64 0, .int .u64 0] 66)).alloc (.cells #[.int .i64 0, .int .u64 0, .int .u64 0] 66)) W.heap.size 0) := ⟨by simp [go_sem], by simp [go_sem], by simp [go_sem], fun i => by rw [frozen_alloc_lt _ _ _ _ (by simp)]; exact World.frozen?_alloc_at _ _ _ _ (by simp)⟩
  go_enter Try.func21, Try.ntmps21
  go_wp2
  go_loopw [9] (fun i wr => ∃ k : Nat, k ≤ vs.length ∧ i = .int .i64 k ∧ Below W.heap.size W wr ∧ TotAt wr (W.heap.size + 1) (sumTo vs k) ∧ TotAt wr W.heap.size 0) (fun i _ => vs.length - (intOf i).toNat)
  case atStart => exact ⟨0, Nat.zero_le _, rfl, HB.out, HT.out, HT0.out⟩
  case round =>
    obtain ⟨k, hk, rfl, hb, ht, ht0⟩ := hrel
    have HBk : Hid (Below W.heap.size W wr) := hb
    have HTk : Hid (TotAt wr (W.heap.size + 1) (sumTo vs k)) := ht
    have HRk : Hid (TotAt wr W.heap.size 0) := ht0
    have hlt1 : W.heap.size + 1 < wr.heap.size := World.block_lt_of_cell? _ _ ht.c0
    clear hb ht ht0
    have hne1 : W.heap.size + 1 ≠ wr.heap.size := by omega
    have hne2 : wr.heap.size ≠ W.heap.size + 1 := by omega
    have hne3 : W.heap.size ≠ W.heap.size + 1 := by omega
    by_cases hlt : k < vs.length
    · obtain ⟨b, off, rfl, p0, p1⟩ := HP.out _ HBk.out k hlt
      obtain ⟨c0, c1, c2, f0⟩ := HTk.out
      have hv := HFIT.out _ (getD_mem 0 hlt)
      have hS := sumTo_fit vs HFIT.out k hk
      have HS : Hid (sumTo vs (k + 1) = sumTo vs k + vs.getD k 0) := sumTo_succ vs k hlt
      unfold PrFit at hv
      generalize vs.getD k 0 = v at *
      generalize sumTo vs k = S at *
      have A1 : ∀ w, (callFunc 35 #[.int .u64 (S % 18446744073709551616), .int .u64 (v % 18446744073709551616), .int .u64 0]).run Try.prog w = .ok (.value (.tuple #[.int .u64 ((S % 18446744073709551616 + v % 18446744073709551616 + 0) % 18446744073709551616), .int .u64 ((S % 18446744073709551616 + v % 18446744073709551616 + 0) / 18446744073709551616)])) w := fun w => add64_call _ _ _ (by omega) (by omega) (by omega) (by omega) w
      have A2 : ∀ w, (callFunc 35 #[.int .u64 (S / 18446744073709551616 % 18446744073709551616), .int .u64 (IntKind.u64.wrap (v / 18446744073709551616)), .int .u64 ((S % 18446744073709551616 + v % 18446744073709551616) / 18446744073709551616)]).run Try.prog w = .ok (.value (.tuple #[.int .u64 ((S / 18446744073709551616 % 18446744073709551616 + IntKind.u64.wrap (v / 18446744073709551616) + (S % 18446744073709551616 + v % 18446744073709551616) / 18446744073709551616) % 18446744073709551616), .int .u64 ((S / 18446744073709551616 % 18446744073709551616 + IntKind.u64.wrap (v / 18446744073709551616) + (S % 18446744073709551616 + v % 18446744073709551616) / 18446744073709551616) / 18446744073709551616)])) w := fun w => add64_call _ _ _ (by omega) (by rw [IntKind.wrap_u64]; omega) (by omega) (by omega) w
      obtain ⟨tp, tn, th⟩ := top_is S v _ _ _ (by omega) hv rfl rfl rfl
      have TP : Hid _ := tp
      have TN : Hid _ := tn
      have TH : Hid _ := th
      clear tp tn th
      by_cases hneg : v / 18446744073709551616 < 0
      · go_wp2_with (simp only [A1, A2])
        go_roundw
        case rel =>
          refine ⟨k + 1, by omega, by go_num, ?_, ?_, ?_⟩
          · exact ((((HBk.out.setCell (by simp) _).setCell (by simp) _).setCell (by simp) _).setCell (by simp) _).alloc (by simp; omega) _
          · refine (((((HTk.out.st2 _).st1 _).st0 _).st0 _).alloc _).tot ?_ ?_ ?_
            · rw [HS.out]; exact TN.out hneg
            · rw [HS.out]; exact TH.out
            · rw [HS.out]
          · exact ((((HRk.out.oth _ _ hne3 _).oth _ _ hne3 _).oth _ _ hne3 _).oth _ _ hne3 _).alloc _
        case measure => simp [intOf]; omega
      · have hw : IntKind.u64.wrap (v / 18446744073709551616) = v / 18446744073709551616 := by rw [IntKind.wrap_u64]; omega
        rw [hw] at A2 TP TH
        go_wp2_with (simp only [A1, A2])
        go_roundw
        case rel =>
          refine ⟨k + 1, by omega, by go_num, ?_, ?_, ?_⟩
          · exact (((HBk.out.setCell (by simp) _).setCell (by simp) _).setCell (by simp) _).alloc (by simp; omega) _
          · refine ((((HTk.out.st2 _).st1 _).st0 _).alloc _).tot ?_ ?_ ?_
            · rw [HS.out]; exact TP.out (by omega)
            · rw [HS.out]; exact TH.out
            · rw [HS.out]
          · exact (((HRk.out.oth _ _ hne3 _).oth _ _ hne3 _).oth _ _ hne3 _).alloc _
        case measure => simp [intOf]; omega
    · have hkk : k = vs.length := by omega
      have HTn : Hid (TotAt wr (W.heap.size + 1) vs.sum) := by have := HTk.out; rw [hkk] at this; unfold sumTo at this; rwa [List.take_length] at this
      clear hkk
      obtain ⟨c0, c1, c2, f0⟩ := HTn.out
      obtain ⟨r0, r1, r2, g0⟩ := HRk.out
      generalize hgs : vs.sum = S at *
      go_wp2
      have s0 : ∀ x, (wr.setCell ⟨W.heap.size, 0, none⟩ x).cell? ⟨W.heap.size, 0, none⟩ = some x := fun x => World.cell?_setCell_same _ _ _ r0
      have s1 : ∀ x y, ((wr.setCell ⟨W.heap.size, 0, none⟩ x).setCell ⟨W.heap.size, 1, none⟩ y).cell? ⟨W.heap.size, 1, none⟩ = some y := fun x y => World.cell?_setCell_same _ _ _ (by rw [cellO _ _ _ _ _ _ (by omega)]; exact r1)
      have s2 : ∀ x y z, (((wr.setCell ⟨W.heap.size, 0, none⟩ x).setCell ⟨W.heap.size, 1, none⟩ y).setCell ⟨W.heap.size, 2, none⟩ z).cell? ⟨W.heap.size, 2, none⟩ = some z := fun x y z => World.cell?_setCell_same _ _ _ (by rw [cellO _ _ _ _ _ _ (by omega), cellO _ _ _ _ _ _ (by omega)]; exact r2)
      refine bodyPost_ret (v := toV S) (by simp [results, Try.results21, go_sem, toV, s0, s1, s2]) rfl ⟨by rw [hgs], ?_⟩
      exact ((HBk.out.setCell (Nat.le_refl _) _).setCell (Nat.le_refl _) _).setCell (Nat.le_refl _) _
end Go.Proofs.Ytipbjoeekbgnbaa

namespace Go.Proofs.Ytipbjoeekbgnbaa
open Go.RowKit
set_option linter.unusedVariables false
set_option maxRecDepth 100000

def cmpT (x y : Int) : Int := if x < y then -1 else if y < x then 1 else 0
set_option maxHeartbeats 1000000 in
theorem isNaNU_any (x : Int) (W : World) : Calls Try.prog 49 #[.int .u64 x] W fun e W' => e = .returned (.bool false) ∧ W' = W := by
  go_enter Try.func49, Try.ntmps49
  go_wp2
  go_ret
  exact ⟨ret_bool (by simp), rfl⟩
set_option maxHeartbeats 1000000 in
theorem compU_any (x y : Int) (W : World) : Calls Try.prog 38 #[.int .u64 x, .int .u64 y] W fun e W' => e = .returned (.int .i64 (cmpT x y)) ∧ W' = W := by
  by_cases h1 : x < y
  · have HE : Hid (cmpT x y = -1) := by simp [Hid, cmpT, h1]
    go_enter Try.func38, Try.ntmps38
    go_wp2_with (go_at_call 49; refine (isNaNU_any _ _).mono ?_; rintro e w' ⟨rfl, hw9⟩; subst w')
    go_ret
    exact ⟨ret_int HE.out.symm, rfl⟩
  · by_cases h2 : y < x
    · have HE : Hid (cmpT x y = 1) := by simp [Hid, cmpT, h1, h2]
      go_enter Try.func38, Try.ntmps38
      go_wp2_with (go_at_call 49; refine (isNaNU_any _ _).mono ?_; rintro e w' ⟨rfl, hw9⟩; subst w')
      go_ret
      exact ⟨ret_int HE.out.symm, rfl⟩
    · have HE : Hid (cmpT x y = 0) := by simp [Hid, cmpT, h1, h2]
      go_enter Try.func38, Try.ntmps38
      go_wp2_with (go_at_call 49; refine (isNaNU_any _ _).mono ?_; rintro e w' ⟨rfl, hw9⟩; subst w')
      go_ret
      exact ⟨ret_int HE.out.symm, rfl⟩
theorem compI_any (x y : Int) (W : World) : Calls Try.prog 37 #[.int .i64 x, .int .i64 y] W fun e W' => e = .returned (.int .i64 (cmpT x y)) ∧ W' = W := by
  refine (Try.cmp_Compare_int x y W).mono ?_
  rintro e W' ⟨rfl, rfl⟩
  exact ⟨ret_int rfl, rfl⟩
def orN : List Int → Int | [] => 0 | x :: l => if x = 0 then orN l else x
theorem orN_at (l : List Int) (k : Nat) (hk : k < l.length) (h : ∀ j, j < k → l.getD j 0 = 0) (h0 : l.getD k 0 ≠ 0) : orN l = l.getD k 0 := by
  induction l generalizing k with
  | nil => simp at hk
  | cons x l ih =>
    cases k with
    | zero => simp only [List.getD_cons_zero] at h0 ⊢; unfold orN; rw [if_neg h0]
    | succ k =>
      have hx : x = 0 := by simpa using h 0 (by omega)
      simp only [List.getD_cons_succ] at h0 ⊢
      unfold orN
      rw [if_pos hx]
      exact ih k (by simpa using hk) (fun j hj => by have := h (j + 1) (by omega); simpa using this) h0
theorem orN_none (l : List Int) (h : ∀ j, j < l.length → l.getD j 0 = 0) : orN l = 0 := by
  induction l with
  | nil => rfl
  | cons x l ih =>
    have hx : x = 0 := by simpa using h 0 (by simp)
    unfold orN
    rw [if_pos hx]
    exact ih fun j hj => by have := h (j + 1) (by simp; omega); simpa using this
def IRow (w : World) (a : Option Addr) (l : List Int) : Prop := ∀ i, i < l.length → ∃ b off, a = some ⟨b, off, none⟩ ∧ w.cell? ⟨b, off + i, none⟩ = some (.int .i64 (l.getD i 0))
set_option maxHeartbeats 2000000 in
theorem orInt_any (a : Option Addr) (cap : Nat) (l : List Int) (W : World) (h : IRow W a l) (hl : l.length ≤ 1000000) :
    Calls Try.prog 36 #[.slice a l.length cap] W fun e W' => e = .returned (.int .i64 (orN l)) ∧ W' = W := by
  have HR : Hid (IRow W a l) := h
  clear h
  go_enter Try.func36, Try.ntmps36
  go_wp2
  go_loopw [8] (fun i wr => ∃ k : Nat, k ≤ l.length ∧ i = .int .i64 k ∧ wr = W ∧ ∀ j, j < k → l.getD j 0 = 0) (fun i _ => l.length - (intOf i).toNat)
  case atStart => exact ⟨0, Nat.zero_le _, rfl, rfl, fun j hj => by omega⟩
  case round =>
    obtain ⟨k, hk, rfl, rfl, hj⟩ := hrel
    have HJ : Hid (∀ j, j < k → l.getD j 0 = 0) := hj
    clear hj
    by_cases hlt : k < l.length
    · obtain ⟨b, off, rfl, c0⟩ := HR.out k hlt
      have HY : Hid (l.getD k 0 ≠ 0 → orN l = l.getD k 0) := fun h0 => orN_at l k hlt HJ.out h0
      have HN : Hid (l.getD k 0 = 0 → ∀ j, j < k + 1 → l.getD j 0 = 0) := fun h0 j hj => by
        rcases Nat.lt_succ_iff_lt_or_eq.1 hj with z | z
        · exact HJ.out j z
        · subst z; exact h0
      generalize hx : l.getD k 0 = x at *
      cases hz : (x != 0) with
      | true =>
        have HE : Hid (orN l = x) := HY.out (by simpa using hz)
        go_wp2
        go_ret
        exact ⟨ret_int HE.out.symm, rfl⟩
      | false =>
        have HE : Hid (∀ j, j < k + 1 → l.getD j 0 = 0) := HN.out (by simpa using hz)
        go_wp2
        go_roundw
        case rel => exact ⟨k + 1, by omega, by go_num, trivial, HE.out⟩
        case measure => simp [intOf]; omega
    · have hkk : k = l.length := by omega
      have HE : Hid (orN l = 0) := orN_none l (by rw [← hkk]; exact HJ.out)
      clear hkk
      go_wp2
      go_ret
      exact ⟨ret_int HE.out.symm, rfl⟩
theorem cmp3 (S T : Int) : orN [cmpT (S / 340282366920938463463374607431768211456) (T / 340282366920938463463374607431768211456), cmpT (S / 18446744073709551616 % 18446744073709551616) (T / 18446744073709551616 % 18446744073709551616), cmpT (S % 18446744073709551616) (T % 18446744073709551616)] = cmpT S T := by
  obtain ⟨a, b, c, e, ha, hb, ea, eb, ec⟩ := words_of S
  obtain ⟨a', b', c', e', ha', hb', ea', eb', ec'⟩ := words_of T
  rw [ea, eb, ec, ea', eb', ec']
  clear ea eb ec ea' eb' ec'
  have k1 : S < T → cmpT S T = -1 := fun h => by unfold cmpT; rw [if_pos h]
  have k2 : T < S → cmpT S T = 1 := fun h => by unfold cmpT; rw [if_neg (by omega), if_pos h]
  have k3 : S = T → cmpT S T = 0 := fun h => by unfold cmpT; rw [if_neg (by omega), if_neg (by omega)]
  have n1 : ∀ l, orN (-1 :: l) = -1 := fun l => rfl
  have n2 : ∀ l, orN (1 :: l) = 1 := fun l => rfl
  have n3 : ∀ l, orN (0 :: l) = orN l := fun l => rfl
  by_cases h1 : c < c'
  · rw [show cmpT c c' = -1 by simp [cmpT, h1], n1, k1 (by omega)]
  · by_cases h2 : c' < c
    · rw [show cmpT c c' = 1 by simp [cmpT, h1, h2], n2, k2 (by omega)]
    · rw [show cmpT c c' = 0 by simp [cmpT, h1, h2], n3]
      by_cases h3 : b < b'
      · rw [show cmpT b b' = -1 by simp [cmpT, h3], n1, k1 (by omega)]
      · by_cases h4 : b' < b
        · rw [show cmpT b b' = 1 by simp [cmpT, h3, h4], n2, k2 (by omega)]
        · rw [show cmpT b b' = 0 by simp [cmpT, h3, h4], n3]
          by_cases h5 : a < a'
          · rw [show cmpT a a' = -1 by simp [cmpT, h5], n1, k1 (by omega)]
          · by_cases h6 : a' < a
            · rw [show cmpT a a' = 1 by simp [cmpT, h5, h6], n2, k2 (by omega)]
            · rw [show cmpT a a' = 0 by simp [cmpT, h5, h6], n3, k3 (by omega)]; rfl
end Go.Proofs.Ytipbjoeekbgnbaa
