/- The contract of trace's verdicts. Conditions: at most 1000 rows and names. -/
import Derived.Test.YtipbjoeekbgnbaaTdF
namespace Go.Proofs.Ytipbjoeekbgnbaa
open Go.RowKit Go.Maps Go.ChangeShapes
set_option linter.unusedVariables false
set_option maxRecDepth 100000

theorem part_all (W0 : World) (g b : Nat) (names : List ByteArray) (ra : Option Addr) (rc : Nat) (rows : List RwV) (hrows : ∀ r ∈ rows, ∀ z ∈ r.zs, B64 z) (hn : names.length ≤ 1000) (hrl : rows.length ≤ 1000) (N : Nat) : PartOk W0 g b names ra rc rows N := by
  induction N with
  | zero => intro y k rest a cap W o Q hk; omega
  | succ N ih => exact part_step W0 g b names ra rc rows N ih hrows hn hrl
/-- A verdict: 2 where some atom overflowed by now, else 1 or 0. -/
noncomputable def vAt (Q : Nat → Prop) (f : Nat → Bool) (i : Nat) : Int := @ite _ (∃ j, j ≤ i ∧ Q j) (Classical.propDecidable _) 2 (if f i then 1 else 0)
theorem vAt_over {Q : Nat → Prop} {f : Nat → Bool} {i : Nat} (h : ∃ j, j ≤ i ∧ Q j) : vAt Q f i = 2 := by unfold vAt; rw [if_pos h]
theorem vAt_else {Q : Nat → Prop} {f : Nat → Bool} {i : Nat} (h : ¬ ∃ j, j ≤ i ∧ Q j) : vAt Q f i = if f i then 1 else 0 := by unfold vAt; rw [if_neg h]
def inC (z : Int) : List Value := [.int .i64 z]
theorem inC_len (z : Int) : (inC z).length = 1 := rfl
theorem inC_one (z : Int) : ∀ u ∈ inC z, u.oneCell' = true := by intro u hu; simp [inC] at hu; subst hu; rfl
theorem infoIn : (Try.prog.info? 3).map (fun i => (i.zero, i.size, i.bytes)) = some (some (.int .i64 0), 1, 8) := by kernel_rfl
/-- What formulas' verdicts are. -/
noncomputable def verd (names : List ByteArray) (rows : List RwV) (y : NdV) (k : Fo) (n : Nat) : List Int := (List.range n).map (vAt (exO names rows (y :: k.flat)) (combF names rows y.x (k.sem names rows)))
/-- Verdicts are told, in a list of their own. -/
def VerTells (W : World) (l : List Int) (e : Ending) (W' : World) : Prop := ∃ v, e = .returned v ∧ Own inC 3 1 W' W.heap.size v l ∧ Below W.heap.size W W'
set_option maxHeartbeats 8000000 in
theorem verdicts_any (y : NdV) (k : Fo) (a : Option Addr) (cap : Nat) (nma : Option Addr) (nmc : Nat) (names : List ByteArray) (ra : Option Addr) (rc : Nat) (rows : List RwV) (W : World) (h : NdsAt W a cap (y :: k.flat)) (hok : (Fo.cons y k .nil).ok) (hnm : NamRow W nma names) (hns : ∀ s ∈ names, s.size ≤ 9223372036854775807) (hro : RoRow W ra rows) (hrows : ∀ r ∈ rows, ∀ z ∈ r.zs, B64 z) (hn : names.length ≤ 1000) (hrl : rows.length ≤ 1000) :
    Calls Try.prog 19 #[.slice a (y :: k.flat).length cap, .slice nma names.length nmc, .slice ra rows.length rc] W (VerTells W (verd names rows y k rows.length)) := by
  have HC := newColumns_any nma nmc names W hnm hn hns
  have HP : Hid (∀ g b X o, LookAt W X g b names ra rc rows o → OvIs rows.length (fun _ => False) o → Calls Try.prog 33 #[.pointer (some ⟨g, 0, none⟩), .slice a (y :: k.flat).length cap] X (PartTells W X g b names ra rc rows (fun j => False ∨ exO names rows (y :: k.flat) j) (combF names rows y.x (k.sem names rows)) [])) := fun g b X o hL hQ => by
    have := part_all W g b names ra rc rows hrows hn hrl (k.flat.length + 1) y k [] a cap X o _ (by omega) (by rw [List.append_nil]; exact h) hok hL hQ
    rw [List.append_nil] at this
    exact this
  have HRO : Hid (RoRow W ra rows) := hro
  generalize (y :: k.flat).length = nl at *
  have HV : Hid (∀ n, verd names rows y k (n + 1) = verd names rows y k n ++ [vAt (exO names rows (y :: k.flat)) (combF names rows y.x (k.sem names rows)) n]) := fun n => by unfold verd; rw [List.range_succ, List.map_append]; rfl
  have HV0 : Hid (verd names rows y k 0 = []) := rfl
  clear h hok hnm hns hro hrows
  generalize exO names rows (y :: k.flat) = Q at *
  generalize combF names rows y.x (k.sem names rows) = f at *
  generalize verd names rows y k = vd at *
  go_enter Try.func19, Try.ntmps19
  go_wp2_with fail
  refine Calls.mono HC ?_
  rintro e W1 ⟨b, rfl, hb, hcol, hb1⟩
  have HB1 : Hid (Below W.heap.size W W1) := hb1
  have hblt := hcol.lt
  have HL1 : Hid (LookAt W (W1.alloc (.cells #[.map (some b), .slice ra rows.length rc, .int .i64 rows.length] 76)) W1.heap.size b names ra rc rows rows.length) :=
    ⟨hb1.alloc hb1.size _, hb1.size, by simp [go_sem], by simp [go_sem], by simp [go_sem], fun i => frz_new _ _ _ _ _ rfl, hcol.below ((Below.refl _ _).alloc (Nat.le_refl _) _), by omega, HRO.out⟩
  have HP1 : Hid _ := HP.out _ _ _ _ HL1.out (OvIs.none _)
  have HG1 : Hid (W.heap.size ≤ W1.heap.size) := hb1.size
  clear hcol hb1 hb hblt HC
  go_wp2_with fail
  refine Calls.mono HP1.out ?_
  rintro e W2 ⟨r, o, a2, c2, rfl, _, hge, hbr, hlk, hov, hmd⟩
  have HBW : Hid (Below W.heap.size W W2) := hlk.bel
  have HBR : Hid (∀ X, Below W2.heap.size W2 X → BoRow X (some ⟨r, 0, none⟩) rows.length f) := fun X hX => hbr.below hX
  have HC2 : Hid (∀ X, Below W2.heap.size W2 X → X.cell? ⟨W1.heap.size, 2, none⟩ = some (.int .i64 o)) := fun X hX => cell_up hX hlk.c2
  have HOV : Hid (OvIs rows.length Q o) := hov.congr fun j _ => by simp
  have hog : W1.heap.size < W2.heap.size := hlk.lt
  clear hge hbr hlk hov hmd
  go_wp2_with fail
  go_loopw [10, 26] (fun ov i wr => ∃ (k : Nat) (va : Option Addr) (vc : Nat), k ≤ rows.length ∧ i = .int .i64 k ∧ ov = .slice va k vc ∧ Own inC 3 1 wr W2.heap.size (.slice va k vc) (vd k) ∧ Below W2.heap.size W2 wr) (fun _ i _ => rows.length - (intOf i).toNat)
  case atStart => exact ⟨0, none, 0, Nat.zero_le _, rfl, rfl, by rw [HV0.out]; exact Own.nil _ _ _ _ _, Below.refl _ _⟩
  case round =>
    obtain ⟨k, va, vc, hk, rfl, rfl, hown, hb⟩ := hrel
    have HO : Hid (Own inC 3 1 wr W2.heap.size (.slice va k vc) (vd k)) := hown
    have HB : Hid (Below W2.heap.size W2 wr) := hb
    clear hown hb
    by_cases hlt : k < rows.length
    · obtain ⟨b9, off, e9, hc⟩ := HBR.out _ HB.out k hlt
      cases e9
      rw [Nat.zero_add] at hc
      have hc2 := HC2.out _ HB.out
      have HAPP : Hid (∀ z : Int, z = vAt Q f k → ∃ va' vc' X6, (Builtin.append_ #[26, 26] 26 #[.slice va k vc, .slice (some ⟨wr.heap.size, 0, none⟩) 1 1]).run Try.prog (wr.alloc (.cells #[.int .i64 z] 3)) = .ok (.slice va' (k + 1) vc') X6 ∧ Own inC 3 1 X6 W2.heap.size (.slice va' (k + 1) vc') (vd (k + 1)) ∧ Below W2.heap.size W2 X6) := fun z hz => by
        have hBs := HB.out.size
        have ho1 := HO.out.below ((Below.refl _ wr).alloc (Nat.le_refl _) (.cells #[.int .i64 z] 3))
        have hlen : (vd k).length = k := by
          obtain ⟨_, _, e, _⟩ := HO.out.sl inC_len 0
          simp only [Value.slice.injEq] at e
          exact e.2.1.symm
        obtain ⟨v', X6, hr, ho, hg, _⟩ := Own.append inC_len inC_one Try.underlying26 infoIn rfl (by omega) (wr.alloc (.cells #[.int .i64 z] 3)) W2.heap.size _ _ ho1 z wr.heap.size
          (by intro j hj; obtain rfl : j = 0 := by omega
              simp [go_sem, inC]) (by unfold maxLen; omega) (by omega) (by simp; omega)
        obtain ⟨va', vc', e, _⟩ := ho.sl inC_len 0
        subst e
        have hl2 : (vd k ++ [z]).length = k + 1 := by rw [List.length_append, hlen]; rfl
        rw [hl2] at hr ho
        refine ⟨va', vc', X6, hr, by rw [HV.out, ← hz]; exact ho, ?_⟩
        exact (HB.out.alloc (by omega) _).trans ((Mod.grown hg).belowOf (by simp; omega) fun g hh => (Own.lt HO.out g (by simpa using hh)).1)
      by_cases hov : o ≤ k
      · have HZ : Hid ((2 : Int) = vAt Q f k) := (vAt_over ((HOV.out.2 k hlt).1 hov)).symm
        go_wp2_with (at_builtin; obtain ⟨va', vc', X6, hr, ho6, hb6⟩ := HAPP.out 2 HZ.out; refine append_runO (by rfl) _ _ (by rfl) (by rfl) _ _ _ _ (by rfl) (by rfl) hr ?_; have HO6 : Hid _ := ho6; have HB6 : Hid _ := hb6; clear hr ho6 hb6)
        go_roundw
        case rel => exact ⟨k + 1, va', vc', by omega, by go_num, rfl, HO6.out, HB6.out⟩
        case measure => simp [intOf]; omega
      · have HZE : Hid (vAt Q f k = if f k then 1 else 0) := vAt_else fun q => hov ((HOV.out.2 k hlt).2 q)
        cases hfk : f k with
        | true =>
          have HZ : Hid ((1 : Int) = vAt Q f k) := by show _ = _; rw [HZE.out, hfk]; rfl
          rw [hfk] at hc
          go_wp2_with (at_builtin; obtain ⟨va', vc', X6, hr, ho6, hb6⟩ := HAPP.out 1 HZ.out; refine append_runO (by rfl) _ _ (by rfl) (by rfl) _ _ _ _ (by rfl) (by rfl) hr ?_; have HO6 : Hid _ := ho6; have HB6 : Hid _ := hb6; clear hr ho6 hb6)
          go_roundw
          case rel => exact ⟨k + 1, va', vc', by omega, by go_num, rfl, HO6.out, HB6.out⟩
          case measure => simp [intOf]; omega
        | false =>
          have HZ : Hid ((0 : Int) = vAt Q f k) := by show _ = _; rw [HZE.out, hfk]; rfl
          rw [hfk] at hc
          go_wp2_with (at_builtin; obtain ⟨va', vc', X6, hr, ho6, hb6⟩ := HAPP.out 0 HZ.out; refine append_runO (by rfl) _ _ (by rfl) (by rfl) _ _ _ _ (by rfl) (by rfl) hr ?_; have HO6 : Hid _ := ho6; have HB6 : Hid _ := hb6; clear hr ho6 hb6)
          go_roundw
          case rel => exact ⟨k + 1, va', vc', by omega, by go_num, rfl, HO6.out, HB6.out⟩
          case measure => simp [intOf]; omega
    · have hkk : k = rows.length := by omega
      subst hkk
      go_wp2
      go_ret
      exact ⟨_, rfl, Own.lower HO.out HBW.out.size, HBW.out.trans (HB.out.mono HBW.out.size)⟩
end Go.Proofs.Ytipbjoeekbgnbaa
