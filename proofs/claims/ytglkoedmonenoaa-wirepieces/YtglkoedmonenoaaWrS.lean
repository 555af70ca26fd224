/- Frames with noise between them, fed in pieces: numbers and lists alone. -/
import Derived.Test.YtglkoedmonenoaaWrR
namespace Go.Proofs.Ytglkoedmonenoaa
open Go.RowKit
set_option linter.unusedVariables false
set_option maxRecDepth 100000

/-- What is to come: some noise, a frame, and so on. -/
def tailS (N M : List UInt8) : List FrV → List UInt8
  | [] => []
  | f :: r => M ++ (frameL f ++ tailS N N r)
def strS (N : List UInt8) (fs : List FrV) : List UInt8 := tailS N N fs
theorem strS_snoc (N : List UInt8) (fs : List FrV) (f : FrV) : strS N (fs ++ [f]) = strS N fs ++ (N ++ frameL f) := by
  unfold strS
  induction fs with
  | nil => simp [tailS]
  | cons g r ih => simp only [List.cons_append, tailS]; rw [ih]; simp
/-- No byte begins a frame. -/
def Clean (M : List UInt8) : Prop := ∀ c ∈ M, c ≠ 165
theorem Clean.drop {M : List UInt8} (h : Clean M) (j : Nat) : Clean (M.drop j) := fun c hc => h c (List.mem_of_mem_drop hc)
theorem Clean.take {M : List UInt8} (h : Clean M) (j : Nat) : Clean (M.take j) := fun c hc => h c (List.mem_of_mem_take hc)
theorem read_noise (c : UInt8) (l : List UInt8) (h : c ≠ 165) : readE (c :: l) = 4 := by
  have e : lensE (c :: l) = 4 := by
    unfold lensE badHead
    rw [noBegin_true (by simp) (by simpa using h)]; rfl
  unfold readE; rw [e]; rfl
theorem skip_noise : ∀ (M R : List UInt8), Clean M → readE R ≠ 4 → skipL (M ++ R) = M.length
  | [], R, _, h => by
    cases R with
    | nil => rfl
    | cons c R => simp only [List.nil_append, skipL, List.length_nil]; rw [if_neg h]
  | c :: M, R, hM, h => by
    simp only [List.cons_append, skipL]
    rw [if_pos (read_noise _ _ (hM c (by simp))), skip_noise M R (fun x hx => hM x (by simp [hx])) h]; simp
structure FsOk (fs : List FrV) : Prop where
  ok : ∀ f ∈ fs, f.Ok ∧ All64 f.zs
/-- Where a Reader stands: so many frames have come; what is left and what is still to come; how many bytes were lost. -/
structure Stands (N : List UInt8) (fs : List FrV) (k : Nat) (rest U : List UInt8) (lost : Nat) : Prop where
  le : k ≤ fs.length
  ex : ∃ M j, M = N.drop j ∧ j ≤ N.length ∧ (k = fs.length → j = 0) ∧ rest ++ U = tailS N M (fs.drop k) ∧ lost = k * N.length + j
theorem Stands.start (N : List UInt8) (fs : List FrV) : Stands N fs 0 [] (strS N fs) 0 :=
  ⟨Nat.zero_le _, N, 0, by simp, Nat.zero_le _, fun _ => rfl, by simp [strS], by simp⟩
theorem Stands.fed {N : List UInt8} {fs : List FrV} {k : Nat} {rest U : List UInt8} {lost : Nat} (h : Stands N fs k rest U lost) (m : Nat) : Stands N fs k (rest ++ U.take m) (U.drop m) lost := by
  obtain ⟨M, j, h1, h2, h3, h4, h5⟩ := h.ex
  exact ⟨h.le, M, j, h1, h2, h3, by rw [List.append_assoc, List.take_append_drop]; exact h4, h5⟩
/-- What Next does there. -/
theorem Stands.next {N : List UInt8} {fs : List FrV} {k : Nat} {rest U : List UInt8} {lost : Nat} (h : Stands N fs k rest U lost) (hN : Clean N) (hf : FsOk fs) :
    (readE (rest.drop (skipL rest)) = 0 ∧ k < fs.length ∧ (∀ hk : k < fs.length, readF (rest.drop (skipL rest)) = fs[k]) ∧ Stands N fs (k + 1) ((rest.drop (skipL rest)).drop (readN (rest.drop (skipL rest)))) U (lost + skipL rest)) ∨
    (readE (rest.drop (skipL rest)) ≠ 0 ∧ Stands N fs k (rest.drop (skipL rest)) U (lost + skipL rest) ∧ (U = [] → k = fs.length ∧ lost + skipL rest = fs.length * N.length)) := by
  obtain ⟨M, j, h1, h2, h3, h4, h5⟩ := h.ex
  rcases Nat.lt_or_ge k fs.length with hk | hk
  · have hd : fs.drop k = fs[k] :: fs.drop (k + 1) := List.drop_eq_getElem_cons hk
    rw [hd] at h4
    simp only [tailS] at h4
    obtain ⟨fok, f64⟩ := hf.ok fs[k] (List.getElem_mem hk)
    generalize hfk : fs[k] = f at *
    have hML : M.length = N.length - j := by rw [h1]; simp
    have hMC : Clean M := by rw [h1]; exact hN.drop j
    rcases Nat.lt_or_ge M.length rest.length with hr | hr
    · -- the noise has all come
      have e : rest = M ++ rest.drop M.length := by
        have e1 : rest.take M.length = M := by
          have := congrArg (List.take M.length) h4
          rw [List.take_append_of_le_length (by omega), List.take_left] at this; exact this
        have e2 := (List.take_append_drop M.length rest).symm
        rw [e1] at e2; exact e2
      generalize hR : rest.drop M.length = R at e
      have hRU : R ++ U = frameL f ++ tailS N N (fs.drop (k + 1)) := by
        rw [e, List.append_assoc] at h4; exact List.append_cancel_left h4
      have hRt : R = (frameL f ++ tailS N N (fs.drop (k + 1))).take R.length := by rw [← hRU]; simp
      have hrf := read_frame f fok f64 (tailS N N (fs.drop (k + 1))) R.length (by rw [← hRU]; simp)
      rw [← hRt] at hrf
      rcases Nat.lt_or_ge R.length (frameL f).length with hl | hl
      · have hE := hrf.1 hl
        have hs : skipL rest = M.length := by rw [e]; exact skip_noise M R hMC (by rw [hE]; decide)
        have hdr : rest.drop (skipL rest) = R := by rw [hs, hR]
        rw [hdr]
        refine .inr ⟨by rw [hE]; decide, ⟨h.le, [], N.length, by simp, Nat.le_refl _, fun q => by omega, ?_, ?_⟩, fun hU => ?_⟩
        · rw [hd]; simp only [tailS, List.nil_append]; exact hRU
        · rw [hs, h5, hML]; omega
        · subst hU
          rw [List.append_nil] at hRU
          have := congrArg List.length hRU
          rw [List.length_append] at this; omega
      · obtain ⟨hE, hF, hn⟩ := hrf.2 hl
        have hs : skipL rest = M.length := by rw [e]; exact skip_noise M R hMC (by rw [hE]; decide)
        have hdr : rest.drop (skipL rest) = R := by rw [hs, hR]
        rw [hdr]
        refine .inl ⟨hE, hk, fun _ => hF.trans hfk.symm, ⟨hk, N, 0, by simp, Nat.zero_le _, fun _ => rfl, ?_, ?_⟩⟩
        · rw [hn]
          have : (R ++ U).drop (frameL f).length = tailS N N (fs.drop (k + 1)) := by rw [hRU]; simp
          rw [List.drop_append_of_le_length hl] at this; exact this
        · rw [hs, h5, hML, Nat.succ_mul]; omega
    · -- noise alone
      have e : rest = M.take rest.length := by
        have := congrArg (List.take rest.length) h4
        rw [List.take_left, List.take_append_of_le_length hr] at this; exact this
      have hs : skipL rest = rest.length := by
        have hc : Clean rest := by rw [e]; exact hMC.take _
        have := skip_noise rest [] hc (by rw [readE_nil]; decide)
        rw [List.append_nil] at this; exact this
      have hdr : rest.drop (skipL rest) = [] := by rw [hs]; simp
      rw [hdr]
      refine .inr ⟨by rw [readE_nil]; decide, ⟨h.le, M.drop rest.length, j + rest.length, by rw [h1, List.drop_drop], by omega, fun q => by omega, ?_, by omega⟩, fun hU => ?_⟩
      · rw [hd]
        simp only [tailS, List.nil_append]
        have : (rest ++ U).drop rest.length = (M ++ (frameL f ++ tailS N N (fs.drop (k + 1)))).drop rest.length := by rw [h4]
        rw [List.drop_left, List.drop_append_of_le_length hr] at this; exact this
      · subst hU
        rw [List.append_nil] at h4
        have := congrArg List.length h4
        rw [List.length_append, List.length_append] at this
        have := frameL_len f; omega
  · have hkk : k = fs.length := by have := h.le; omega
    have hd : fs.drop k = [] := List.drop_eq_nil_of_le (by omega)
    rw [hd] at h4
    simp only [tailS, List.append_eq_nil_iff] at h4
    obtain ⟨rfl, rfl⟩ := h4
    have hj := h3 hkk
    subst hj
    refine .inr ⟨by show readE [] ≠ 0; rw [readE_nil]; decide, ?_, fun _ => ⟨hkk, ?_⟩⟩
    · show Stands N fs k [] [] (lost + 0)
      exact h
    · show lost + 0 = _
      rw [h5, hkk]; omega
end Go.Proofs.Ytglkoedmonenoaa
