/- The contracts of lex's reader: take, skip. -/
import Derived.Test.YtkkgfbhngoijaaaDoorLxD
namespace Go.Proofs.YtkkgfbhngoijaaaDoor
open Go.RowKit
set_option linter.unusedVariables false
set_option maxRecDepth 100000

/-- A place that may be. -/
def PlaceOk (p : Nat × Nat) (l : List UInt8) : Prop := 1 ≤ p.1 ∧ 1 ≤ p.2 ∧ p.1 + l.length ≤ 200000 ∧ p.2 + l.length ≤ 200000
theorem PlaceOk.step {p : Nat × Nat} {l : List UInt8} (h : PlaceOk p l) (n : Nat) (hn : n ≤ l.length) : PlaceOk (passL p (l.take n)) (l.drop n) := by
  suffices ∀ (t m : List UInt8) (p : Nat × Nat), 1 ≤ p.1 → 1 ≤ p.2 → p.1 + t.length + m.length ≤ 200000 → p.2 + t.length + m.length ≤ 200000 → PlaceOk (passL p t) m by
    obtain ⟨h1, h2, h3, h4⟩ := h
    refine this _ _ _ h1 h2 ?_ ?_ <;> simp only [List.length_take, List.length_drop] <;> omega
  intro t
  induction t with
  | nil => intro m p h1 h2 h3 h4; simp at h3 h4; exact ⟨h1, h2, h3, h4⟩
  | cons c t ih =>
    intro m p h1 h2 h3 h4
    show PlaceOk (passL (passC p c) t) m
    simp only [List.length_cons] at h3 h4
    unfold passC
    split
    · exact ih m _ (by simp) (by simp) (by simp; omega) (by simp; omega)
    · exact ih m _ (by simpa using h1) (by simp) (by simp; omega) (by simp; omega)

set_option maxHeartbeats 600000 in
theorem take_any {W : World} {r : Nat} {p : Nat × Nat} {l : List UInt8} (h : RdX W r p l) (n : Nat) (hn : n ≤ l.length) (hp : PlaceOk p l) :
    Calls Tryd.prog 13 #[.pointer (some ⟨r, 0, none⟩), .int .i64 (n : Int)] W fun e W' => e = .returned (.string (strL (l.take n))) ∧ RdX W' r (passL p (l.take n)) (l.drop n) ∧ Mod [r] W W' := by
  have hsz : (strL l).size = l.length := strL_size l
  have hto : ∀ X, (Instr.slice 9 (.string (strL l)) none (some (.int .i64 (n : Int))) none).run Tryd.prog X = .ok (.string (strL (l.take n))) X := by
    intro X
    have := run_slice_string_h (P := Tryd.prog) X 9 (strL l) Tryd.underlying9 .i64 (n : Int) (by omega) (by rw [strL_size]; omega)
    rw [this, Int.toNat_natCast, strL_to]
  have hfrom : ∀ X, (Instr.slice 9 (.string (strL l)) (some (.int .i64 (n : Int))) none none).run Tryd.prog X = .ok (.string (strL (l.drop n))) X := by
    intro X
    have := run_slice_string_l (P := Tryd.prog) X 9 (strL l) Tryd.underlying9 .i64 (n : Int) (by omega) (by rw [strL_size]; omega)
    rw [this, Int.toNat_natCast, strL_from]
  obtain ⟨q1, q2, q3, q4⟩ := hp
  have hpass := pass_any h (l.take n) (by rw [List.length_take]; omega) (by omega) (by omega)
  have c2 := h.c2
  have HS2 : Hid (∀ W1, RdX W1 r (passL p (l.take n)) l → RdX (W1.setCell ⟨r, 2, none⟩ (.string (strL (l.drop n)))) r (passL p (l.take n)) (l.drop n)) := fun W1 hW1 => hW1.set2 _
  clear h hsz hn q1 q2 q3 q4
  generalize passL p (l.take n) = p' at *
  generalize l.take n = lt at *
  generalize l.drop n = ld at *
  generalize strL lt = s1 at *
  generalize strL ld = s2 at *
  go_enter Tryd.func13, Tryd.ntmps13
  go_wp2_with fail
  refine Calls.mono hpass ?_
  rintro e W1 ⟨rfl, hrd, hmod⟩
  have HR : Hid (RdX W1 r p' l) := hrd
  have HM : Hid (Mod [r] W W1) := hmod
  clear hmod c2
  have d2 := hrd.c2
  have f2 := hrd.f 2
  clear hrd
  generalize strL l = s0 at *
  go_wp2
  go_ret
  exact ⟨rfl, HS2.out _ HR.out, HM.out.setCell _ _ _ (by simp)⟩

/-- Behind all that says nothing. -/
def skipN : Nat → Nat × Nat → List UInt8 → (Nat × Nat) × List UInt8
  | 0, p, l => (p, l)
  | n + 1, p, l => if idleL l = 0 then (p, l) else skipN n (passL p (l.take (idleL l))) (l.drop (idleL l))
theorem skipN_enough (n : Nat) : ∀ (m : Nat) (p : Nat × Nat) (l : List UInt8), l.length ≤ n → l.length ≤ m → skipN n p l = skipN m p l := by
  induction n with
  | zero =>
    intro m p l h1 h2
    have : l = [] := List.length_eq_zero_iff.1 (by omega)
    subst this
    cases m with
    | zero => rfl
    | succ m => simp [skipN, idleL, runL, Lib.hasPrefix]
  | succ n ih =>
    intro m p l h1 h2
    cases m with
    | zero =>
      have : l = [] := List.length_eq_zero_iff.1 (by omega)
      subst this
      simp [skipN, idleL, runL, Lib.hasPrefix]
    | succ m =>
      simp only [skipN]
      split
      · rfl
      · rename_i h
        have h3 := idleL_le l
        exact ih m _ _ (by rw [List.length_drop]; omega) (by rw [List.length_drop]; omega)
def skipL (p : Nat × Nat) (l : List UInt8) : (Nat × Nat) × List UInt8 := skipN l.length p l
theorem skipL_stop (p : Nat × Nat) (l : List UInt8) (h : idleL l = 0) : skipL p l = (p, l) := by
  unfold skipL; cases hl : l.length with
  | zero => rfl
  | succ n => simp [skipN, h]
theorem skipL_go (p : Nat × Nat) (l : List UInt8) (h : idleL l ≠ 0) : skipL p l = skipL (passL p (l.take (idleL l))) (l.drop (idleL l)) := by
  unfold skipL
  have h1 := idleL_le l
  obtain ⟨n, hn⟩ : ∃ n, l.length = n + 1 := ⟨l.length - 1, by omega⟩
  rw [hn]
  show (if idleL l = 0 then (p, l) else skipN n (passL p (l.take (idleL l))) (l.drop (idleL l))) = _
  rw [if_neg h]
  exact skipN_enough _ _ _ _ (by rw [List.length_drop]; omega) (Nat.le_refl _)

/-- What holds at the head of skip's loop. -/
def SkipInv (W : World) (r : Nat) (p : Nat × Nat) (l : List UInt8) (v : Value) (wr : World) (p' : Nat × Nat) (l' : List UInt8) : Prop :=
  v = .int .i64 (idleL l') ∧ RdX wr r p' l' ∧ PlaceOk p' l' ∧ Mod [r] W wr ∧ skipL p l = skipL p' l'
set_option maxHeartbeats 600000 in
theorem skip_any {W : World} {r : Nat} {p : Nat × Nat} {l : List UInt8} (h : RdX W r p l) (hp : PlaceOk p l) :
    Calls Tryd.prog 9 #[.pointer (some ⟨r, 0, none⟩)] W fun e W' => e = .returned (.tuple #[]) ∧ RdX W' r (skipL p l).1 (skipL p l).2 ∧ PlaceOk (skipL p l).1 (skipL p l).2 ∧ Mod [r] W W' := by
  have HR : Hid (RdX W r p l) := h
  have HP : Hid (PlaceOk p l) := hp
  have hidle := idleSize_any l W (by have := hp.2.2.1; omega)
  have c2 := h.c2
  clear h hp
  generalize hs : strL l = s at *
  have HS : Hid (strL l = s) := hs
  clear hs
  go_enter Tryd.func9, Tryd.ntmps9
  go_wp2_with fail
  refine Calls.mono hidle ?_
  rintro e W1 ⟨rfl, rfl⟩
  clear c2
  go_wp2_with fail
  go_loopw [2] (fun v wr => ∃ p' l', SkipInv W1 r p l v wr p' l') (fun v wr => match wr.cell? ⟨r, 2, none⟩ with | some (.string t) => t.size | _ => 0)
  case atStart => exact ⟨p, l, rfl, HR.out, HP.out, Mod.refl _ _, rfl⟩
  case round =>
    obtain ⟨p', l', rfl, hrd, hpl, hmod, heq⟩ := hrel
    have HI : Hid (RdX wr r p' l' ∧ PlaceOk p' l' ∧ Mod [r] W1 wr ∧ skipL p l = skipL p' l') := ⟨hrd, hpl, hmod, heq⟩
    have hle := idleL_le l'
    have hpl3 := hpl.2.2.1
    clear hrd hpl hmod heq
    by_cases h0 : idleL l' = 0
    · have HE : Hid (skipL p l = (p', l')) := by show _ = _; rw [HI.out.2.2.2, skipL_stop p' l' h0]
      rw [h0]
      clear h0 hle
      go_wp2
      first | go_end0 | refine bodyPost_ret (results_none rfl _ _ _) rfl ?_
      rw [HE.out]
      exact ⟨rfl, HI.out.1, HI.out.2.1, HI.out.2.2.1⟩
    · have htk := take_any HI.out.1 (idleL l') hle HI.out.2.1
      have HG : Hid (skipL p' l' = skipL (passL p' (l'.take (idleL l'))) (l'.drop (idleL l')) ∧ PlaceOk (passL p' (l'.take (idleL l'))) (l'.drop (idleL l'))) := ⟨skipL_go p' l' h0, HI.out.2.1.step _ hle⟩
      have hlen : (l'.drop (idleL l')).length < l'.length ∧ (l'.drop (idleL l')).length ≤ 200000 := by rw [List.length_drop]; omega
      have hpos : 0 < idleL l' := by omega
      clear h0
      obtain ⟨ld, hld⟩ : ∃ ld, l'.drop (idleL l') = ld := ⟨_, rfl⟩
      obtain ⟨pd, hpd⟩ : ∃ pd, passL p' (l'.take (idleL l')) = pd := ⟨_, rfl⟩
      rw [hld, hpd] at htk HG
      rw [hld] at hlen
      clear hld hpd
      have c2' := HI.out.1.c2
      have hsz' : (strL l').size = l'.length := strL_size l'
      generalize strL (l'.take (idleL l')) = st at *
      generalize idleL l' = n at *
      generalize strL l' = s' at *
      go_wp2_with fail
      refine Calls.mono htk ?_
      rintro e W2 ⟨rfl, hrd2, hmod2⟩
      have HI2 : Hid (RdX W2 r pd ld ∧ Mod [r] W1 W2) := ⟨hrd2, HI.out.2.2.1.trans hmod2⟩
      have d2 := hrd2.c2
      have hid2 := idleSize_any ld W2 (by omega)
      have hsz2 : (strL ld).size = ld.length := strL_size ld
      clear hrd2 hmod2
      generalize strL ld = sd at *
      go_wp2_with fail
      refine Calls.mono hid2 ?_
      rintro e W3 ⟨rfl, rfl⟩
      go_wp2_with fail
      go_roundw
      case rel => exact ⟨pd, ld, rfl, HI2.out.1, HG.out.2, HI2.out.2, HI.out.2.2.2.trans HG.out.1⟩
      case measure => simp only [d2, c2']; omega
end Go.Proofs.YtkkgfbhngoijaaaDoor
