/- Every formula that is whole is a tree; where a list means nothing. Conditions: there. -/
import Derived.Test.YtipbjoeekbgnbaaTdG
namespace Go.Proofs.Ytipbjoeekbgnbaa
open Go.RowKit
set_option linter.unusedVariables false
set_option maxRecDepth 100000

theorem valid_fitsM {l : List Nd} (h : validB l = true) : ∀ x ∈ l, fitsB x = true := fun x hx => by
  obtain ⟨i, hi, rfl⟩ := List.getElem_of_mem hx
  have := valid_fits h i hi
  simpa [List.getD_eq_getElem?_getD, hi] using this
theorem valid_scan {l : List Nd} (h : validB l = true) : scanW 1 l = (l.length, true) := by
  obtain ⟨h3, hr⟩ := valid_rest h
  obtain ⟨p, e, hp⟩ := rest_part 24 _ _ hr
  rw [List.append_nil] at e
  have := scan_one hp [] (by rw [← e]; omega)
  rw [List.append_nil, ← e] at this; exact this
theorem core_scan {l : List Nd} (h : isCoreB l = true) : scanW 1 l = (l.length, true) := by
  unfold isCoreB wholeB at h
  simp only [Bool.and_eq_true, beq_iff_eq] at h
  exact Prod.ext h.1.2 h.1.1
theorem core_fits' {l : List Nd} (h : isCoreB l = true) : ∀ x ∈ l, fitsB x = true := fun x hx => by
  unfold isCoreB at h
  simp only [Bool.and_eq_true, Bool.not_eq_true', List.any_eq_false] at h
  have := h.2 x hx
  unfold otherB at this
  split at this
  · simp only [Bool.or_eq_true, Bool.not_eq_true', not_or] at this
    simpa using this.1
  · simp at this
/-- Each node has as many trees within it as it says. -/
def Fo.okC : Fo → Prop
  | .nil => True
  | .cons y k s => y.x.n = (k.len : Int) ∧ k.okC ∧ s.okC
theorem Fo.ok_of : ∀ f : Fo, f.okC → (∀ y ∈ f.flat, NodeGood y.x) → f.ok
  | .nil, _, _ => trivial
  | .cons y k s, ⟨h1, h2, h3⟩, hg => ⟨h1, hg y (by simp [Fo.flat]), Fo.ok_of k h2 fun z hz => hg z (by simp [Fo.flat, hz]), Fo.ok_of s h3 fun z hz => hg z (by simp [Fo.flat, hz])⟩
theorem Fo.ok_c : ∀ f : Fo, f.ok → f.okC
  | .nil, _ => trivial
  | .cons y k s, ⟨h1, _, h2, h3⟩ => ⟨h1, Fo.ok_c k h2, Fo.ok_c s h3⟩
theorem Fo.ok_good : ∀ f : Fo, f.ok → ∀ y ∈ f.flat, NodeGood y.x
  | .nil, _ => fun y hy => by cases hy
  | .cons y k s, ⟨_, h1, h2, h3⟩ => fun z hz => by
    simp only [Fo.flat, List.mem_cons, List.mem_append] at hz
    rcases hz with rfl | hz | hz
    · exact h1
    · exact Fo.ok_good k h2 z hz
    · exact Fo.ok_good s h3 z hz
theorem Fo.split (n : Nat) : ∀ (f : Fo) (m : Nat), f.len = n + m → f.okC → ∃ f1 f2 : Fo, f1.len = n ∧ f2.len = m ∧ f.flat = f1.flat ++ f2.flat ∧ f1.okC ∧ f2.okC := by
  induction n with
  | zero => intro f m h hok; exact ⟨.nil, f, rfl, by omega, rfl, trivial, hok⟩
  | succ n ih =>
    intro f m h hok
    cases f with
    | nil => simp [Fo.len] at h; omega
    | cons y k s =>
      obtain ⟨h1, h2, h3⟩ := hok
      obtain ⟨f1, f2, e1, e2, e3, o1, o2⟩ := ih s m (by simp [Fo.len] at h; omega) h3
      exact ⟨.cons y k f1, f2, by simp [Fo.len, e1], e2, by simp [Fo.flat, e3], ⟨h1, h2, o1⟩, o2⟩
theorem parse_of : ∀ (ys : List NdV) (a : Nat), 0 < a → a ≤ 9223372036854775807 → (∀ y ∈ ys, 0 ≤ y.x.n ∧ y.x.n ≤ 9223372036854775807) → scanW a (ys.map (·.x)) = (ys.length, true) → ∃ f : Fo, f.len = a ∧ f.flat = ys ∧ f.okC := by
  intro ys
  induction ys with
  | nil => intro a h0 h1 hn hs; simp [scanW] at hs
  | cons y r ih =>
    intro a h0 h1 hn hs
    have hy := hn y (by simp)
    have e1 : wrap64 (y.x.n - 1) = y.x.n - 1 := wrap64_id (by omega) (by omega)
    simp only [List.map_cons, scanW, e1, List.length_cons] at hs
    split at hs
    · rename_i hle
      simp only [Prod.mk.injEq, beq_iff_eq] at hs
      have hr : r = [] := List.length_eq_zero_iff.1 (by omega)
      have hz := hs.2
      have : (a : Int) + (y.x.n - 1) = 0 := by
        unfold wrap64 at hz; omega
      subst hr
      exact ⟨.cons y .nil .nil, by simp [Fo.len]; omega, rfl, by simp [Fo.len]; omega, trivial, trivial⟩
    · rename_i hle
      have hw : wrap64 ((a : Int) + (y.x.n - 1)) = (a : Int) + (y.x.n - 1) := by
        unfold wrap64 at hle ⊢; omega
      rw [hw] at hs hle
      obtain ⟨b, hb⟩ : ∃ b : Nat, (a : Int) + (y.x.n - 1) = b := ⟨((a : Int) + (y.x.n - 1)).toNat, by omega⟩
      rw [hb] at hs hle hw
      simp only [Prod.mk.injEq] at hs
      obtain ⟨f, l1, l2, l3⟩ := ih b (by omega) (by unfold wrap64 at hw; omega) (fun z hz => hn z (by simp [hz])) (Prod.ext (by omega) hs.2)
      obtain ⟨f1, f2, e1, e2, e3, o1, o2⟩ := Fo.split y.x.n.toNat f (a - 1) (by rw [l1]; omega) l3
      exact ⟨.cons y f1 f2, by simp [Fo.len, e2]; omega, by simp [Fo.flat, ← e3, l2], ⟨by rw [e1]; omega, o1, o2⟩⟩
theorem fits_good {x : Nd} (h : fitsB x = true) (hn : NamesFit x.terms) (ht : TimesFit x.terms) (hm : B64 x.num) : NodeGood x := by
  unfold fitsB at h
  simp only [Bool.and_eq_true] at h
  obtain ⟨⟨h1, h2⟩, h3⟩ := h
  refine ⟨hn, ht, hm, ?_, fun hop => ?_, fun hop => ?_⟩
  · unfold fitsAB at h3
    split at h3
    · simp only [Bool.and_eq_true, decide_eq_true_eq] at h3; omega
    · simp only [Bool.and_eq_true, beq_iff_eq] at h3; omega
  · unfold fitsIB at h2
    rw [if_pos hop] at h2
    unfold isIntB at h2
    simp only [Bool.and_eq_true, decide_eq_true_eq] at h2
    exact h2.1.1
  · unfold fitsNB at h1
    rw [if_pos (by omega)] at h1
    simpa using h1
/-- Why a list means nothing, if it does. -/
def faultE (l : List Nd) : Int := if validB l = false ∧ isCoreB l = false then 31 else if l.any beyondB then 42 else 0
theorem faultE_ok {l : List Nd} (h : faultE l = 0) : (∀ x ∈ l, fitsB x = true) ∧ scanW 1 l = (l.length, true) := by
  unfold faultE at h
  split at h
  · cases h
  · rename_i hv
    cases hb : validB l with
    | true => exact ⟨valid_fitsM hb, valid_scan hb⟩
    | false =>
      have : isCoreB l = true := by
        cases hc : isCoreB l with
        | true => rfl
        | false => exact absurd ⟨hb, hc⟩ hv
      exact ⟨core_fits' this, core_scan this⟩
/-- What means something is a tree. -/
theorem tree_of {W : World} {ys : List NdV} (h : faultE (ys.map (·.x)) = 0) (hk : ∀ y ∈ ys, NdKnown W y) : ∃ y k, ys = y :: k.flat ∧ (Fo.cons y k .nil).ok := by
  obtain ⟨h1, h2⟩ := faultE_ok h
  rw [List.length_map] at h2
  have hf : ∀ y ∈ ys, fitsB y.x = true := fun y hy => h1 _ (List.mem_map_of_mem hy)
  obtain ⟨f, l1, l2, l3⟩ := parse_of ys 1 (by omega) (by omega) (fun y hy => ⟨fitsB_n (hf y hy), by have := (hk y hy).2.2.2.2.2.1; unfold B64 at this; omega⟩) h2
  cases f with
  | nil => simp [Fo.len] at l1
  | cons y k s =>
    cases s with
    | cons y2 k2 s2 => simp [Fo.len] at l1
    | nil =>
      refine ⟨y, k, by rw [← l2]; simp [Fo.flat], Fo.ok_of _ l3 fun z hz => ?_⟩
      rw [l2] at hz
      obtain ⟨_, k2, k3, _, _, _, _, _, k9⟩ := hk z hz
      exact fits_good (hf z hz) k2 k3 k9
end Go.Proofs.Ytipbjoeekbgnbaa

namespace Go.Proofs.Ytipbjoeekbgnbaa
open Go.RowKit
set_option linter.unusedVariables false
set_option maxRecDepth 100000

set_option maxHeartbeats 4000000 in
theorem fault_any (a : Option Addr) (cap : Nat) (ys : List NdV) (W : World) (h : NdsAt W a cap ys) (hfit : NodesFit (ys.map (·.x))) :
    Calls Try.prog 18 #[.slice a ys.length cap] W fun e W' => e = .returned (.int .i64 (faultE (ys.map (·.x)))) ∧ Below W.heap.size W W' := by
  have hfew := h.few
  have hv := valid_any a cap (ys.map (·.x)) W h.nodes (by rw [List.length_map]; exact h.le) hfit (by rw [List.length_map]; omega)
  rw [List.length_map] at hv
  have HV : Hid _ := hv
  have HCO : Hid (∀ X, Below W.heap.size W X → Calls Try.prog 31 #[.slice a ys.length cap] X fun e W' => e = .returned (.bool (isCoreB (ys.map (·.x)))) ∧ Below X.heap.size X W') := fun X hX => by
    have := isCoreS_any a cap (ys.map (·.x)) X (h.below hX).nodes (by rw [List.length_map]; omega) fun x hx => ⟨(hfit x hx).1, (hfit x hx).2.1⟩
    rw [List.length_map] at this; exact this
  have HIR : Hid (∀ X, Below W.heap.size W X → Calls Try.prog 32 #[.slice a ys.length cap] X fun e W' => e = .returned (.bool (!((ys.map (·.x)).any beyondB))) ∧ Below X.heap.size X W') := fun X hX => by
    have := inRange_any a cap (ys.map (·.x)) X (h.below hX).nodes (by rw [List.length_map]; omega)
    rw [List.length_map] at this; exact this
  have HE : Hid (faultE (ys.map (·.x)) = if validB (ys.map (·.x)) = false ∧ isCoreB (ys.map (·.x)) = false then 31 else if (ys.map (·.x)).any beyondB then 42 else 0) := rfl
  clear h hfit hv
  generalize faultE (ys.map (·.x)) = fe at *
  generalize validB (ys.map (·.x)) = vb at *
  generalize isCoreB (ys.map (·.x)) = cb at *
  generalize (ys.map (·.x)).any beyondB = bb at *
  have fin : ∀ (W2 : World), Hid (Below W.heap.size W W2) → Hid (∀ X, Below W.heap.size W X → Calls Try.prog 32 #[.slice a ys.length cap] X fun e W' => e = .returned (.bool (!bb)) ∧ Below X.heap.size X W') := fun _ _ => HIR
  cases vb with
  | true =>
    have HE2 : Hid (fe = if bb then 42 else 0) := by show _ = _; rw [HE.out]; simp
    go_enter Try.func18, Try.ntmps18
    go_wp2_with fail
    refine Calls.mono HV.out ?_
    rintro e W2 ⟨rfl, hb2⟩
    have HB2 : Hid (Below W.heap.size W W2) := hb2
    clear hb2
    go_wp2_with fail
    cases bb with
    | true =>
      have hc9 := HIR.out _ HB2.out
      simp only [Bool.not_true] at hc9
      refine Calls.mono hc9 ?_
      rintro e W3 ⟨rfl, hb3⟩
      go_wp2
      go_ret
      exact ⟨ret_int HE2.out.symm, HB2.out.trans (hb3.mono HB2.out.size)⟩
    | false =>
      have hc9 := HIR.out _ HB2.out
      simp only [Bool.not_false] at hc9
      refine Calls.mono hc9 ?_
      rintro e W3 ⟨rfl, hb3⟩
      go_wp2
      go_ret
      exact ⟨ret_int HE2.out.symm, HB2.out.trans (hb3.mono HB2.out.size)⟩
  | false =>
    cases cb with
    | false =>
      have HE2 : Hid (fe = 31) := by show _ = _; rw [HE.out]; simp
      go_enter Try.func18, Try.ntmps18
      go_wp2_with fail
      refine Calls.mono HV.out ?_
      rintro e W2 ⟨rfl, hb2⟩
      have HB2 : Hid (Below W.heap.size W W2) := hb2
      clear hb2
      go_wp2_with fail
      refine Calls.mono (HCO.out _ HB2.out) ?_
      rintro e W3 ⟨rfl, hb3⟩
      go_wp2
      go_ret
      exact ⟨ret_int HE2.out.symm, HB2.out.trans (hb3.mono HB2.out.size)⟩
    | true =>
      have HE2 : Hid (fe = if bb then 42 else 0) := by show _ = _; rw [HE.out]; simp
      go_enter Try.func18, Try.ntmps18
      go_wp2_with fail
      refine Calls.mono HV.out ?_
      rintro e W2 ⟨rfl, hb2⟩
      have HB2 : Hid (Below W.heap.size W W2) := hb2
      clear hb2
      go_wp2_with fail
      refine Calls.mono (HCO.out _ HB2.out) ?_
      rintro e W3 ⟨rfl, hb3⟩
      have HB3 : Hid (Below W.heap.size W W3) := HB2.out.trans (hb3.mono HB2.out.size)
      clear hb3
      go_wp2_with fail
      cases bb with
      | true =>
        have hc9 := HIR.out _ HB3.out
        simp only [Bool.not_true] at hc9
        refine Calls.mono hc9 ?_
        rintro e W4 ⟨rfl, hb4⟩
        go_wp2
        go_ret
        exact ⟨ret_int HE2.out.symm, HB3.out.trans (hb4.mono HB3.out.size)⟩
      | false =>
        have hc9 := HIR.out _ HB3.out
        simp only [Bool.not_false] at hc9
        refine Calls.mono hc9 ?_
        rintro e W4 ⟨rfl, hb4⟩
        go_wp2
        go_ret
        exact ⟨ret_int HE2.out.symm, HB3.out.trans (hb4.mono HB3.out.size)⟩
/-- Names and rows that lie in memory. -/
structure RwsAt (W : World) (nma : Option Addr) (names : List ByteArray) (ra : Option Addr) (rows : List RwV) : Prop where
  nm : NamRow W nma names
  ns : ∀ s ∈ names, s.size ≤ 9223372036854775807
  ro : RoRow W ra rows
  b64 : ∀ r ∈ rows, ∀ z ∈ r.zs, B64 z
  nl : names.length ≤ 1000
  rl : rows.length ≤ 1000
theorem RwsAt.below {W W' : World} {nma : Option Addr} {names : List ByteArray} {ra : Option Addr} {rows : List RwV} (h : RwsAt W nma names ra rows) (k : Below W.heap.size W W') : RwsAt W' nma names ra rows :=
  ⟨h.nm.below k, h.ns, h.ro.below k, h.b64, h.nl, h.rl⟩
set_option maxHeartbeats 2000000 in
/-- All of a list that means nothing. -/
theorem all_bad9 (a : Option Addr) (cap : Nat) (ys : List NdV) (nv rv : Value) (W : World) (h : NdsAt W a cap ys) (hfit : NodesFit (ys.map (·.x))) (he : faultE (ys.map (·.x)) ≠ 0) :
    Calls Try.prog 10 #[.slice a ys.length cap, nv, rv] W fun e W' => e = .returned (.tuple #[.slice none 0 0, .int .i64 (faultE (ys.map (·.x)))]) ∧ Below W.heap.size W W' := by
  have HF : Hid _ := fault_any a cap ys W h hfit
  clear h hfit
  generalize faultE (ys.map (·.x)) = fe at *
  have hfe : (fe != 0) = true := by simpa using he
  clear he
  go_enter Try.func10, Try.ntmps10
  go_wp2_with fail
  refine Calls.mono HF.out ?_
  rintro e W2 ⟨rfl, hb2⟩
  go_wp2
  go_ret2
  exact ⟨rfl, hb2⟩
/-- All's answer: verdicts in a list of their own. -/
def AllTells (W : World) (l : List Int) (e : Ending) (W' : World) : Prop := ∃ va c, e = .returned (.tuple #[.slice va l.length c, .int .i64 0]) ∧ Own inC 3 1 W' W.heap.size (.slice va l.length c) l ∧ Below W.heap.size W W'
theorem VerTells.sl {W : World} {l : List Int} {e : Ending} {W' : World} (h : VerTells W l e W') : ∃ va c, e = .returned (.slice va l.length c) ∧ Own inC 3 1 W' W.heap.size (.slice va l.length c) l ∧ Below W.heap.size W W' := by
  obtain ⟨v, h1, h2, h3⟩ := h
  obtain ⟨va, c, rfl, _⟩ := h2.sl inC_len 0
  exact ⟨va, c, h1, h2, h3⟩
set_option maxHeartbeats 2000000 in
theorem all_good9 (a : Option Addr) (cap : Nat) (y : NdV) (k : Fo) (nma : Option Addr) (nmc : Nat) (names : List ByteArray) (ra : Option Addr) (rc : Nat) (rows : List RwV) (W : World) (h : NdsAt W a cap (y :: k.flat)) (hfit : NodesFit ((y :: k.flat).map (·.x))) (hok : (Fo.cons y k .nil).ok) (hr : RwsAt W nma names ra rows) (he : faultE ((y :: k.flat).map (·.x)) = 0) :
    Calls Try.prog 10 #[.slice a (y :: k.flat).length cap, .slice nma names.length nmc, .slice ra rows.length rc] W (AllTells W (verd names rows y k rows.length)) := by
  have hf := fault_any a cap (y :: k.flat) W h hfit
  rw [he] at hf
  have HF : Hid _ := hf
  have HV : Hid (∀ X, Below W.heap.size W X → Calls Try.prog 19 #[.slice a (y :: k.flat).length cap, .slice nma names.length nmc, .slice ra rows.length rc] X (VerTells X (verd names rows y k rows.length))) := fun X hX =>
    verdicts_any y k a cap nma nmc names ra rc rows X (h.below hX) hok (hr.below hX).nm hr.ns (hr.below hX).ro hr.b64 hr.nl hr.rl
  clear h hfit hok hr he hf
  generalize (y :: k.flat).length = nl at *
  generalize verd names rows y k rows.length = vl at *
  go_enter Try.func10, Try.ntmps10
  go_wp2_with fail
  refine Calls.mono HF.out ?_
  rintro e W2 ⟨rfl, hb2⟩
  have HB2 : Hid (Below W.heap.size W W2) := hb2
  clear hb2
  go_wp2_with fail
  refine Calls.mono (HV.out _ HB2.out) ?_
  intro e W3 hv
  obtain ⟨va, c, rfl, ho, hb3⟩ := hv.sl
  have HO : Hid _ := ho
  have HB3 : Hid (Below W.heap.size W W3) := HB2.out.trans (hb3.mono HB2.out.size)
  clear hv ho hb3
  go_wp2
  go_ret2
  exact ⟨va, c, rfl, Own.lower HO.out HB2.out.size, HB3.out⟩
end Go.Proofs.Ytipbjoeekbgnbaa

namespace Go.Proofs.Ytipbjoeekbgnbaa
open Go.RowKit
set_option linter.unusedVariables false
set_option maxRecDepth 100000

theorem RoRow.take {w : World} {a : Option Addr} {rows : List RwV} (h : RoRow w a rows) (k : Nat) (hk : k ≤ rows.length) : RoRow w a (rows.take k) := fun i hi => by
  rw [List.length_take] at hi
  obtain ⟨b, off, e, h1, h2⟩ := h i (by omega)
  have : (rows.take k).getD i default = rows.getD i default := by rw [List.getD_eq_getElem?_getD, List.getD_eq_getElem?_getD, List.getElem?_take_of_lt (by omega)]
  rw [this]
  exact ⟨b, off, e, h1, h2⟩
theorem RwsAt.take {W : World} {nma : Option Addr} {names : List ByteArray} {ra : Option Addr} {rows : List RwV} (h : RwsAt W nma names ra rows) (k : Nat) (hk : k ≤ rows.length) : RwsAt W nma names ra (rows.take k) :=
  ⟨h.nm, h.ns, h.ro.take k hk, fun r hr => h.b64 r (List.mem_of_mem_take hr), h.nl, by have := h.rl; rw [List.length_take]; omega⟩
theorem size_row (w : World) : (sizeOf (Try.prog.elem 30)).run Try.prog w = .ok 1 w := by kernel_rfl
theorem rows_head (W : World) (a : Option Addr) (len cap k : Nat) (hk : k ≤ cap) (hm : cap ≤ maxLen) :
    (Instr.slice 30 (.slice a len cap) none (some (.int .i64 (k : Int))) none).run Try.prog W = .ok (.slice a k cap) W := by
  rw [run_slice_h W 30 a len cap (by kernel_rfl) .i64 k (by omega) (by omega), size_row]
  show Result.ok (sliced a 0 k cap 1) W = _
  unfold sliced
  rw [show a.map (·.add (0 * 1)) = a by cases a <;> simp [Addr.add]]
  simp
set_option maxHeartbeats 2000000 in
theorem holds_good9 (a : Option Addr) (cap : Nat) (y : NdV) (k : Fo) (nma : Option Addr) (nmc : Nat) (names : List ByteArray) (ra : Option Addr) (rc : Nat) (rows : List RwV) (i : Nat) (W : World) (h : NdsAt W a cap (y :: k.flat)) (hfit : NodesFit ((y :: k.flat).map (·.x))) (hok : (Fo.cons y k .nil).ok) (hr : RwsAt W nma names ra rows) (he : faultE ((y :: k.flat).map (·.x)) = 0) (hi : i < rows.length) (hrc : rows.length ≤ rc) (hrm : rc ≤ maxLen) :
    Calls Try.prog 9 #[.slice a (y :: k.flat).length cap, .slice nma names.length nmc, .slice ra rows.length rc, .int .i64 (i : Int)] W fun e W' => e = .returned (.tuple #[.int .i64 ((verd names (rows.take (i + 1)) y k (i + 1)).getD i 0), .int .i64 0]) ∧ Below W.heap.size W W' := by
  have hf := fault_any a cap (y :: k.flat) W h hfit
  rw [he] at hf
  have HF : Hid _ := hf
  have hlt : (rows.take (i + 1)).length = i + 1 := by rw [List.length_take]; omega
  have HV : Hid (∀ X, Below W.heap.size W X → Calls Try.prog 19 #[.slice a (y :: k.flat).length cap, .slice nma names.length nmc, .slice ra (i + 1) rc] X (VerTells X (verd names (rows.take (i + 1)) y k (i + 1)))) := fun X hX => by
    have ht := (hr.below hX).take (i + 1) (by omega)
    have := verdicts_any y k a cap nma nmc names ra rc (rows.take (i + 1)) X (h.below hX) hok ht.nm ht.ns ht.ro ht.b64 ht.nl ht.rl
    rw [hlt] at this; exact this
  have HSL : Hid (∀ X, (Instr.slice 30 (.slice ra rows.length rc) none (some (.int .i64 ((i + 1 : Nat) : Int))) none).run Try.prog X = .ok (.slice ra (i + 1) rc) X) := fun X => rows_head X ra rows.length rc (i + 1) (by omega) hrm
  have HVL : Hid ((verd names (rows.take (i + 1)) y k (i + 1)).length = i + 1) := by show _ = _; unfold verd; simp
  have hrl := hr.rl
  clear h hfit hok hr he hf hlt
  generalize (y :: k.flat).length = nl at *
  generalize verd names (rows.take (i + 1)) y k (i + 1) = vl at *
  have hsl : ∀ X, (Instr.slice 30 (.slice ra rows.length rc) none (some (.int .i64 ((i : Int) + 1))) none).run Try.prog X = .ok (.slice ra (i + 1) rc) X := HSL.out
  go_enter Try.func9, Try.ntmps9
  go_wp2_with fail
  refine Calls.mono HF.out ?_
  rintro e W2 ⟨rfl, hb2⟩
  have HB2 : Hid (Below W.heap.size W W2) := hb2
  clear hb2
  go_wp2_with fail
  refine Calls.mono (HV.out _ HB2.out) ?_
  intro e W3 hv
  obtain ⟨va, c, rfl, ho, hb3⟩ := hv.sl
  obtain ⟨_, _, e3, _, _, hrow⟩ := ho.sl inC_len 0
  obtain ⟨g9, e9, _, _, hc⟩ := hrow i (by rw [HVL.out]; omega)
  have hc0 := hc 0 (by omega)
  simp only [Value.slice.injEq] at e3
  obtain ⟨rfl, _, rfl⟩ := e3
  subst e9
  rw [HVL.out]
  have hc1 : W3.cell? ⟨g9, i, none⟩ = some (.int .i64 (vl.getD i 0)) := by simpa [inC] using hc0
  have HB3 : Hid (Below W.heap.size W W3) := HB2.out.trans (hb3.mono HB2.out.size)
  clear hv ho hb3 hrow hc hc0
  go_wp2
  go_ret2
  exact ⟨rfl, HB3.out⟩
end Go.Proofs.Ytipbjoeekbgnbaa
