/- The contracts of tree's behind, Valid. Conditions: names of at most 2^63 - 1 bytes, few terms and nodes. -/
import Derived.Test.YtjnnjjajlafchaaKnH
namespace Go.Proofs.Ytjnnjjajlafchaa
open Go.RowKit
set_option linter.unusedVariables false
set_option maxRecDepth 100000

/-- f, so many times. -/
def iterO (f : List Nd → Option (List Nd)) : Nat → List Nd → Option (List Nd)
  | 0, r => some r
  | k + 1, r => (f r).bind (iterO f k)
theorem iterO_succ (f : List Nd → Option (List Nd)) (k : Nat) (r : List Nd) : iterO f (k + 1) r = (iterO f k r).bind f := by
  induction k generalizing r with
  | zero => simp only [iterO, Option.bind_some]; cases f r <;> rfl
  | succ k ih =>
    rw [iterO]
    cases h : f r with
    | none => simp [iterO, h]
    | some s => simp only [Option.bind_some]; rw [ih]; simp [iterO, h]
theorem iterO_none (f : List Nd → Option (List Nd)) (k m : Nat) (r : List Nd) (h : iterO f k r = none) : iterO f (k + m) r = none := by
  induction m with
  | zero => exact h
  | succ m ih => rw [← Nat.add_assoc, iterO_succ, ih]; rfl
/-- What stands behind the first part, where d more may stand within one another. -/
def restD : Nat → List Nd → Option (List Nd)
  | 0, _ => none
  | _ + 1, [] => none
  | d + 1, x :: r => if fitsB x then iterO (restD d) x.n.toNat r else none
/-- Every list that is asked is some list less its beginning. -/
def Dropped (l r : List Nd) : Prop := ∃ k, r = l.drop k
theorem Dropped.refl (l : List Nd) : Dropped l l := ⟨0, rfl⟩
theorem Dropped.trans {l r s : List Nd} (h : Dropped l r) (k : Dropped r s) : Dropped l s := by
  obtain ⟨i, rfl⟩ := h; obtain ⟨j, rfl⟩ := k; exact ⟨i + j, by rw [List.drop_drop]⟩
theorem fitsB_n {x : Nd} (h : fitsB x = true) : 0 ≤ x.n := by
  unfold fitsB at h
  simp only [Bool.and_eq_true] at h
  have h1 := h.1.1
  unfold fitsNB at h1
  split at h1
  · simp at h1; omega
  · split at h1
    · simp at h1; omega
    · split at h1
      · simp at h1; omega
      · split at h1
        · simp at h1; omega
        · cases h1
/-- Lists whose names and terms can be looked at. -/
def NodesFit (l : List Nd) : Prop := ∀ x ∈ l, NamesFit x.terms ∧ x.terms.length ≤ 9223372036854775807 ∧ x.n ≤ 9223372036854775807
theorem NodesFit.drop {l : List Nd} (h : NodesFit l) (k : Nat) : NodesFit (l.drop k) := fun x hx => h x (List.mem_of_mem_drop hx)
theorem size_node (w : World) : (sizeOf (Try.prog.elem 53)).run Try.prog w = .ok 6 w := by kernel_rfl
/-- 'n[1:]'. -/
theorem nodes_tail (b off cap : Nat) (x : Nd) (l : List Nd) (w : World) (hr : NodeRow w (some ⟨b, off, none⟩) (x :: l)) (hcap : l.length + 1 ≤ cap) :
    ∃ a2, (∀ W, (Instr.slice 53 (.slice (some ⟨b, off, none⟩) (l.length + 1) cap) (some (.int .i64 1)) none none).run Try.prog W = .ok (.slice a2 l.length (cap - 1)) W) ∧ NodeRow w a2 l := by
  refine ⟨if cap = 1 then some ⟨b, off, none⟩ else (some (⟨b, off, none⟩ : Addr)).map (·.add (1 * 6)), fun W => ?_, ?_⟩
  · rw [run_slice_l W 53 _ (l.length + 1) cap (by kernel_rfl) .i64 1 (by omega) (by omega), size_node]
    rfl
  · by_cases e : cap = 1
    · obtain rfl : l = [] := List.length_eq_zero_iff.1 (by omega)
      exact fun i hi => by simp at hi
    · rw [if_neg e]
      have := hr.drop 1
      simpa [addr_add] using this
/-- What behind tells. -/
def BehindTells (W : World) (d : Nat) (l : List Nd) (e : Ending) (W' : World) : Prop := Below W.heap.size W W' ∧
  ((restD d l = none ∧ e = .returned (.tuple #[.slice none 0 0, .bool false])) ∨ (∃ r a cap, restD d l = some r ∧ Dropped l r ∧ r.length < l.length ∧ e = .returned (.tuple #[.slice a r.length cap, .bool true]) ∧ NodeRow W' a r ∧ r.length ≤ cap))
set_option maxHeartbeats 4000000 in
theorem behind_any (d : Nat) : ∀ (v : Int) (hv : v + d = 24) (h0 : 0 ≤ v) (a : Option Addr) (cap : Nat) (l : List Nd) (W : World) (h : NodeRow W a l) (hcap : l.length ≤ cap) (hf : NodesFit l) (hl : l.length ≤ 9223372036854775807),
    Calls Try.prog 48 #[.slice a l.length cap, .int .i64 v] W (BehindTells W d l) := by
  induction d with
  | zero =>
    intro v hv h0 a cap l W h hcap hf hl
    obtain rfl : v = 24 := by omega
    cases l with
    | nil =>
      have HE : Hid (BehindTells W 0 [] (.returned (.tuple #[.slice none 0 0, .bool false])) W) := ⟨Below.refl _ _, .inl ⟨rfl, rfl⟩⟩
      go_enter Try.func48, Try.ntmps48
      go_wp2
      go_ret2
      exact HE.out
    | cons x l =>
      have HE : Hid (BehindTells W 0 (x :: l) (.returned (.tuple #[.slice none 0 0, .bool false])) W) := ⟨Below.refl _ _, .inl ⟨rfl, rfl⟩⟩
      have e : (x :: l).length = l.length + 1 := rfl
      rw [e] at hl ⊢
      have hne : (((l.length + 1 : Nat) : Int) == 0) = false := by rw [beq_eq_false_iff_ne]; omega
      clear h hf hcap e
      generalize l.length + 1 = n at *
      go_enter Try.func48, Try.ntmps48
      go_wp2
      go_ret2
      exact HE.out
  | succ d ih =>
    intro v hv h0 a cap l W h hcap hf hl
    have hv24 : v < 24 := by omega
    cases l with
    | nil =>
      have HE : Hid (BehindTells W (d + 1) [] (.returned (.tuple #[.slice none 0 0, .bool false])) W) := ⟨Below.refl _ _, .inl ⟨rfl, rfl⟩⟩
      go_enter Try.func48, Try.ntmps48
      go_wp2
      go_ret2
      exact HE.out
    | cons x l =>
      have HIH : Hid (∀ (v : Int) (hv : v + d = 24) (h0 : 0 ≤ v) (a : Option Addr) (cap : Nat) (l : List Nd) (W : World) (h : NodeRow W a l) (hcap : l.length ≤ cap) (hf : NodesFit l) (hl : l.length ≤ 9223372036854775807), Calls Try.prog 48 #[.slice a l.length cap, .int .i64 v] W (BehindTells W d l)) := ih
      clear ih
      have e : (x :: l).length = l.length + 1 := rfl
      rw [e] at hcap hl ⊢
      obtain ⟨b, off, rfl, n0, n1, n2, n3, ⟨ta, tc, n4, ht⟩, n5⟩ := h 0 (by simp)
      simp only [Nat.zero_mul, Nat.add_zero, List.getD_cons_zero] at n0 n1 n2 n3 n4 n5 ht
      obtain ⟨a2, hsl, hr2⟩ := nodes_tail b off cap x l W h hcap
      obtain ⟨hfx, hfl, hxm⟩ := hf x (by simp)
      have HFI := fits_any x ta tc W ht hfx hfl
      have hne : ((l.length : Int) + 1 == 0) = false := by rw [beq_eq_false_iff_ne]; omega
      have HF : Hid (NodesFit l) := fun y hy => hf y (by simp [hy])
      have HR2 : Hid (NodeRow W a2 l) := hr2
      have HD : Hid (restD (d + 1) (x :: l) = if fitsB x then iterO (restD d) x.n.toNat l else none) := rfl
      have HXN : Hid (fitsB x = true → 0 ≤ x.n) := fitsB_n
      have hp0 : ((0 : Nat) : Int) = 0 := rfl
      clear h hf hfx hfl ht hr2 e
      generalize fitsB x = fx at *
      obtain ⟨op, xn, fr, to, ts, num⟩ := x
      simp only at n0 n1 n2 n3 n4 n5 HFI HD HXN hxm
      have HW : Hid (∀ e W', Below W.heap.size W W' → restD (d + 1) (⟨op, xn, fr, to, ts, num⟩ :: l) = none → e = .returned (.tuple #[.slice none 0 0, .bool false]) → BehindTells W (d + 1) (⟨op, xn, fr, to, ts, num⟩ :: l) e W') := fun e W' h1 h2 h3 => ⟨h1, .inl ⟨h2, h3⟩⟩
      have HWY : Hid (∀ W' r ar cr, Below W.heap.size W W' → restD (d + 1) (⟨op, xn, fr, to, ts, num⟩ :: l) = some r → Dropped l r → NodeRow W' ar r → r.length ≤ cr → BehindTells W (d + 1) (⟨op, xn, fr, to, ts, num⟩ :: l) (.returned (.tuple #[.slice ar r.length cr, .bool true])) W') := fun W' r ar cr h1 h2 h3 h4 h5 => ⟨h1, .inr ⟨r, ar, cr, h2, (Dropped.trans ⟨1, rfl⟩ h3), by
        obtain ⟨k, rfl⟩ := h3; rw [List.length_drop, List.length_cons]; omega, rfl, h4, h5⟩⟩
      cases fx with
      | false =>
        go_enter Try.func48, Try.ntmps48
        go_wp2_with (go_at_call 69; refine HFI.mono ?_; rintro e W1 ⟨rfl, hb1⟩)
        go_ret2
        exact HW.out _ _ hb1 (by rw [HD.out]; rfl) rfl
      | true =>
        have hx0 : 0 ≤ xn := HXN.out rfl
        have HD2 : Hid (restD (d + 1) (⟨op, xn, fr, to, ts, num⟩ :: l) = iterO (restD d) xn.toNat l) := HD.out
        clear HXN HD
        go_enter Try.func48, Try.ntmps48
        go_wp2_with fail
        refine HFI.mono ?_
        rintro e W1 ⟨rfl, hb1⟩
        have HB1 : Hid (Below W.heap.size W W1) := hb1
        have m1 := cell_up hb1 n1
        clear n0 n1 n2 n3 n4 n5 hb1
        go_wp2
        go_loopw [6, 29] (fun s i wr => ∃ k : Nat, k ≤ xn.toNat ∧ i = .int .i64 k ∧ Below W.heap.size W wr ∧ ∃ r ar cr, s = .slice ar r.length cr ∧ iterO (restD d) k l = some r ∧ NodeRow wr ar r ∧ r.length ≤ cr ∧ Dropped l r) (fun s i wr => xn.toNat - (intOf i).toNat)
        case atStart => exact ⟨0, Nat.zero_le _, rfl, HB1.out, l, a2, cap - 1, rfl, rfl, HR2.out.below HB1.out, by omega, Dropped.refl l⟩
        case round =>
          obtain ⟨k, hk, rfl, hb, r, ar, cr, rfl, hi, hr, hrc, hd⟩ := hrel
          have HB : Hid (Below W.heap.size W wr) := hb
          have HI : Hid (iterO (restD d) k l = some r) := hi
          have HD : Hid (Dropped l r) := hd
          have HRR : Hid (NodeRow wr ar r) := hr
          have hlen : r.length ≤ l.length := by obtain ⟨q, rfl⟩ := hd; rw [List.length_drop]; omega
          have hrl : r.length ≤ 9223372036854775807 := by omega
          have HFR : Hid (NodesFit r) := by obtain ⟨q, rfl⟩ := hd; exact HF.out.drop q
          clear hb hi hd hr
          by_cases hlt : (k : Int) < xn
          · have HC := HIH.out (v + 1) (by omega) (by omega) ar cr r wr HRR.out hrc HFR.out hrl
            have HS : Hid (iterO (restD d) (k + 1) l = restD d r) := by show _ = _; rw [iterO_succ, HI.out]; rfl
            have HZ : Hid (restD d r = none → iterO (restD d) xn.toNat l = none) := fun q => by
              have e1 : iterO (restD d) (k + 1) l = none := by rw [HS.out]; exact q
              have e2 : xn.toNat = (k + 1) + (xn.toNat - (k + 1)) := by omega
              rw [e2]; exact iterO_none _ _ _ _ e1
            have hv25 : v + 1 ≤ 24 := by omega
            go_wp2_with fail
            refine Calls.mono HC ?_
            rintro e W3 ⟨hb3, h3⟩
            have HB3 : Hid (Below W.heap.size W W3) := HB.out.trans (hb3.mono HB.out.size)
            clear hb3
            rcases h3 with ⟨hn, rfl⟩ | ⟨r3, a3, c3, hs3, hd3, hl3, rfl, hr3, hc3⟩
            · have HN : Hid (iterO (restD d) xn.toNat l = none) := HZ.out hn
              clear hn HC
              go_wp2
              go_ret2
              exact HW.out _ _ HB3.out (by rw [HD2.out]; exact HN.out) rfl
            · have HN : Hid (iterO (restD d) (k + 1) l = some r3) := by show _ = _; rw [HS.out]; exact hs3
              have HD3 : Hid (Dropped l r3) := HD.out.trans hd3
              have HR3 : Hid (NodeRow W3 a3 r3) := hr3
              clear hs3 hd3 hr3 HC
              go_wp2
              go_roundw
              case rel => exact ⟨k + 1, by omega, by go_num, HB3.out, r3, a3, c3, rfl, HN.out, HR3.out, hc3, HD3.out⟩
              case measure => simp [intOf]; omega
          · have hkk : k = xn.toNat := by omega
            have HZ : Hid (iterO (restD d) xn.toNat l = some r) := by have := HI.out; rw [hkk] at this; exact this
            clear hkk
            go_wp2
            go_ret2
            exact HWY.out _ _ _ _ HB.out (by rw [HD2.out]; exact HZ.out) HD.out HRR.out hrc
end Go.Proofs.Ytjnnjjajlafchaa
