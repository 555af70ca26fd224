/- What Norm tells is a core formula with no part that says nothing. Conditions: a tree, no interval of which is beyond. -/
import Derived.Test.YtpgdkgilmcipkaaCwA
namespace Go.Proofs.Ytpgdkgilmcipkaa
open Go.RowKit
set_option linter.unusedVariables false
set_option maxRecDepth 100000

/-- A part may stand within one of that Op. -/
def KidOk (op : Int) (p : List Nd) : Prop := (op = 3 → isB p 3 = false ∧ isB p 0 = false ∧ isB p 1 = false) ∧ (op = 5 → isB p 5 = false ∧ isB p 0 = false ∧ isB p 1 = false) ∧ (op = 7 → isB p 1 = false)
/-- A core formula with no part that says nothing. -/
inductive TidyP : List Nd → Prop
  | mk (x : Nd) (ps : List (List Nd)) (hp : ∀ p ∈ ps, TidyP p) (hn : x.n = ps.length) (hx : otherB x = false) (hk : ∀ p ∈ ps, KidOk x.op p) : TidyP (x :: ps.flatten)
theorem TidyP.inv {l : List Nd} (h : TidyP l) : ∃ (x : Nd) (ps : List (List Nd)), l = x :: ps.flatten ∧ (∀ p ∈ ps, TidyP p) ∧ x.n = ps.length ∧ otherB x = false ∧ ∀ p ∈ ps, KidOk x.op p := by
  cases h with
  | mk x ps hp hn hx hk => exact ⟨x, ps, rfl, hp, hn, hx, hk⟩
theorem tidy_any {l : List Nd} (h : TidyP l) : l.any otherB = false := by
  induction h with
  | mk x ps hp hn hx hk ih =>
    rw [List.any_cons, hx, Bool.false_or, List.any_eq_false]
    intro y hy
    obtain ⟨p, hp', hy'⟩ := List.mem_flatten.1 hy
    have := ih p hp'
    rw [List.any_eq_false] at this
    exact this y hy'
theorem other_fits {x : Nd} (h : otherB x = false) : fitsB x = true ∧ neverB x.fr x.to = false := by
  unfold otherB at h
  split at h
  · simp only [Bool.or_eq_false_iff, Bool.not_eq_eq_eq_not, Bool.not_false] at h
    exact h
  · cases h
theorem part_le {d e : Nat} {p : List Nd} (h : PartD d p) (k : d ≤ e) : PartD e p := by
  induction k with
  | refl => exact h
  | step _ ih => exact ih.up
theorem part_all (ps : List (List Nd)) (h : ∀ p ∈ ps, ∃ d, PartD d p) : ∃ d, ∀ p ∈ ps, PartD d p := by
  induction ps with
  | nil => exact ⟨0, fun p hp => by simp at hp⟩
  | cons p ps ih =>
    obtain ⟨d, hd⟩ := h p (by simp)
    obtain ⟨e, he⟩ := ih fun q hq => h q (by simp [hq])
    refine ⟨max d e, fun q hq => ?_⟩
    rcases List.mem_cons.1 hq with rfl | hq
    · exact part_le hd (by omega)
    · exact part_le (he q hq) (by omega)
theorem tidy_part {l : List Nd} (h : TidyP l) : ∃ d, PartD d l := by
  induction h with
  | mk x ps hp hn hx hk ih =>
    obtain ⟨d, hd⟩ := part_all ps ih
    refine ⟨d + 1, fun s => ?_⟩
    rw [List.cons_append]
    unfold restD
    rw [if_pos (other_fits hx).1, hn, Int.toNat_natCast]
    exact iter_flat d ps hd s
theorem tidy_core {l : List Nd} (h : TidyP l) (hl : l.length ≤ 2305843009213693952) : isCoreB l = true := by
  obtain ⟨d, hd⟩ := tidy_part h
  have := scan_one hd [] hl
  rw [List.append_nil] at this
  unfold isCoreB wholeB
  rw [this, tidy_any h]
  simp
/-- One that may not stand ahead of another. -/
def BadP (x y : Nd) : Prop := (x.op = 3 ∧ (y.op = 3 ∨ y.op = 0 ∨ y.op = 1)) ∨ (x.op = 5 ∧ (y.op = 5 ∨ y.op = 0 ∨ y.op = 1)) ∨ (x.op = 7 ∧ y.op = 1)
def AdjOk : List Nd → Prop
  | x :: y :: l => ¬ BadP x y ∧ AdjOk (y :: l)
  | _ => True
theorem adj_at : ∀ (l : List Nd), AdjOk l → ∀ i, i + 1 < l.length → ¬ BadP (l.getD i nd0) (l.getD (i + 1) nd0)
  | [], _, i, hi => by simp at hi
  | [x], _, i, hi => by simp at hi
  | x :: y :: l, h, 0, _ => h.1
  | x :: y :: l, h, i + 1, hi => by
    have := adj_at (y :: l) h.2 i (by simpa using hi)
    simpa using this
theorem fits_leaf {x : Nd} (h : fitsB x = true) (hn : x.n = 0) : x.op = 0 ∨ x.op = 1 ∨ x.op = 2 := by
  unfold fitsB at h
  simp only [Bool.and_eq_true] at h
  have h1 := h.1.1
  unfold fitsNB at h1
  rw [hn] at h1
  split at h1
  · assumption
  · split at h1
    · simp at h1
    · split at h1
      · simp at h1
      · split at h1 <;> simp at h1
theorem fits_one {x : Nd} (h : fitsB x = true) (ho : x.op = 3 ∨ x.op = 7 ∨ x.op = 8 ∨ x.op = 9) : x.n = 1 := by
  unfold fitsB at h
  simp only [Bool.and_eq_true] at h
  have h1 := h.1.1
  unfold fitsNB at h1
  rw [if_neg (by omega), if_pos ho] at h1
  simpa using h1
theorem fits_two {x : Nd} (h : fitsB x = true) (ho : x.op = 6 ∨ x.op = 10) : x.n = 2 := by
  unfold fitsB at h
  simp only [Bool.and_eq_true] at h
  have h1 := h.1.1
  unfold fitsNB at h1
  rw [if_neg (by omega), if_neg (by omega), if_pos ho] at h1
  simpa using h1
theorem fits_time {x : Nd} (h : fitsB x = true) (ho : x.op = 8 ∨ x.op = 9 ∨ x.op = 10) : fitsIB 10 x.fr x.to = true := by
  unfold fitsB at h
  simp only [Bool.and_eq_true] at h
  have h1 := h.1.2
  unfold fitsIB at h1 ⊢
  rw [if_pos ho] at h1
  rw [if_pos (by omega)]
  exact h1
theorem tidy_adj {l : List Nd} (h : TidyP l) : ∀ s, AdjOk s → AdjOk (l ++ s) := by
  induction h with
  | mk x ps hp hn hx hk ih =>
    intro s hs
    have hf : AdjOk (ps.flatten ++ s) := by
      clear hn hk
      induction ps with
      | nil => exact hs
      | cons p ps ih2 =>
        rw [List.flatten_cons, List.append_assoc]
        exact ih p (by simp) _ (ih2 (fun q hq => hp q (by simp [hq])) (fun q hq => ih q (by simp [hq])))
    cases ps with
    | nil =>
      have ho := fits_leaf (other_fits hx).1 (by rw [hn]; rfl)
      cases s with
      | nil => trivial
      | cons y s => exact ⟨fun hb => by unfold BadP at hb; omega, hs⟩
    | cons p ps =>
      obtain ⟨y, qs, rfl, _⟩ := (hp p (by simp)).inv
      obtain ⟨k1, k2, k3⟩ := hk _ (List.mem_cons_self ..)
      have b : ∀ k : Int, isB (y :: qs.flatten) k = (y.op == k) := fun k => rfl
      simp only [b, beq_eq_false_iff_ne, ne_eq] at k1 k2 k3
      rw [List.flatten_cons, List.cons_append, List.cons_append] at hf
      rw [List.flatten_cons, List.cons_append, List.cons_append, List.cons_append]
      refine ⟨fun hb => ?_, hf⟩
      rcases hb with ⟨h1, h2⟩ | ⟨h1, h2⟩ | ⟨h1, h2⟩
      · have := k1 h1; omega
      · have := k2 h1; omega
      · have := k3 h1; omega
theorem tidy_tt : TidyP [tt] := TidyP.mk tt [] (fun p hp => by simp at hp) rfl (by decide) (fun p hp => by simp at hp)
theorem tidy_ff : TidyP [ff] := TidyP.mk ff [] (fun p hp => by simp at hp) rfl (by decide) (fun p hp => by simp at hp)
theorem tidy_not {n : List Nd} (h : TidyP n) : TidyP (notL n) := by
  unfold notL
  split
  · exact tidy_tt
  · rename_i a1
    split
    · exact tidy_ff
    · rename_i a0
      split
      · rename_i h3
        obtain ⟨x, ps, rfl, hp, hn, hx, hk⟩ := h.inv
        have hop : x.op = 3 := by simpa [isB] using h3
        have h1 := fits_one (other_fits hx).1 (.inl hop)
        obtain ⟨p, rfl⟩ := List.length_eq_one_iff.1 (show ps.length = 1 by omega)
        have := hp p (by simp)
        simpa using this
      · rename_i a3
        refine TidyP.mk ⟨3, ([n].length : Nat), 0, 0, [], 0⟩ [n] (fun p hp => ?_) rfl (by show otherB ⟨3, 1, 0, 0, [], 0⟩ = false; decide) (fun p hp => ?_)
        · simp only [List.mem_singleton] at hp; subst hp; exact h
        · simp only [List.mem_singleton] at hp; subst hp
          exact ⟨fun _ => ⟨by simpa using a3, by simpa using a0, by simpa using a1⟩, fun q => by simp at q, fun q => by simp at q⟩
theorem tidy_prev {n : List Nd} (h : TidyP n) : TidyP (prevL n) := by
  unfold prevL
  split
  · exact tidy_ff
  · rename_i a1
    refine TidyP.mk ⟨7, ([n].length : Nat), 0, 0, [], 0⟩ [n] (fun p hp => ?_) rfl (by show otherB ⟨7, 1, 0, 0, [], 0⟩ = false; decide) (fun p hp => ?_)
    · simp only [List.mem_singleton] at hp; subst hp; exact h
    · simp only [List.mem_singleton] at hp; subst hp
      exact ⟨fun q => by simp at q, fun q => by simp at q, fun _ => by simpa using a1⟩
theorem tidy_since {fr to : Int} {p q : List Nd} (hp : TidyP p) (hq : TidyP q) (hi : fitsIB 10 fr to = true) : TidyP (sinceL fr to p q) := by
  unfold sinceL
  split
  · exact tidy_ff
  · rename_i h1
    split
    · exact hq
    · split
      · exact hq
      · split
        · exact tidy_ff
        · refine TidyP.mk ⟨10, ([p, q].length : Nat), fr, to, [], 0⟩ [p, q] (fun r hr => ?_) rfl ?_ (fun r hr => ⟨fun q => by simp at q, fun q => by simp at q, fun q => by simp at q⟩)
          · simp only [List.mem_cons, List.not_mem_nil, or_false] at hr
            rcases hr with rfl | rfl
            · exact hp
            · exact hq
          · have hv : neverB fr to = false := by
              cases e : neverB fr to with
              | false => rfl
              | true => rw [e] at h1; simp at h1
            show otherB ⟨10, 2, fr, to, [], 0⟩ = false
            unfold otherB
            rw [if_pos (by simp)]
            have hf : fitsB ⟨10, 2, fr, to, [], 0⟩ = true := by
              unfold fitsB
              show (fitsNB 10 2 && fitsIB 10 fr to && fitsAB ⟨10, 2, fr, to, [], 0⟩) = true
              rw [hi]; rfl
            show (!fitsB ⟨10, 2, fr, to, [], 0⟩ || neverB fr to) = false
            rw [hf, hv]; rfl
theorem flat_tidy {l : List (List Nd)} (h : ∀ p ∈ l, TidyP p) (hl : ∀ p ∈ l, p.length ≤ 2305843009213693952) : ∀ p ∈ flatO l, TidyP p ∧ isB p 5 = false := by
  intro p hp
  unfold flatO at hp
  obtain ⟨n, hn, hm⟩ := List.mem_flatMap.1 hp
  split at hm
  · rename_i h5
    have hln := hl n hn
    obtain ⟨x, ps, rfl, kp, kn, kx, kk⟩ := (h n hn).inv
    have hop : x.op = 5 := by simpa [isB] using h5
    obtain ⟨d, hd⟩ := part_all ps fun q hq => tidy_part (kp q hq)
    have hs : splitL ((x :: ps.flatten).drop 1) = ps := splitL_parts ps hd (by simp only [List.length_cons] at hln; omega)
    rw [hs] at hm
    exact ⟨kp p hm, ((kk p hm).2.1 hop).1⟩
  · rename_i h5
    simp only [List.mem_singleton] at hm
    subst hm
    exact ⟨h p hn, by simpa using h5⟩
theorem some_tidy {l : List (List Nd)} (h : ∀ p ∈ l, TidyP p) (hl : ∀ p ∈ l, p.length ≤ 2305843009213693952) : ∀ p ∈ someN l, TidyP p ∧ isB p 5 = false ∧ isB p 1 = false := by
  intro p hp
  have h1 := (someN_settled l).2 p hp
  rcases foldN_mem hp with q | q
  · simp at q
  · obtain ⟨a, b⟩ := flat_tidy h hl p q
    exact ⟨a, b, h1⟩
theorem tidy_or {l : List (List Nd)} (h : ∀ p ∈ l, TidyP p) (hl : ∀ p ∈ l, p.length ≤ 2305843009213693952) : TidyP (orL l) := by
  have hS := some_tidy h hl
  rcases orL_cases l with e | e | ⟨hs, x, hx, e⟩ | ⟨hs, h2, e⟩
  · rw [e]; exact tidy_tt
  · rw [e]; exact tidy_ff
  · rw [e]; exact (hS x (by rw [hx]; simp)).1
  · rw [e]
    refine TidyP.mk ⟨5, ((someN l).length : Nat), 0, 0, [], 0⟩ (someN l) (fun p hp => (hS p hp).1) rfl ?_ (fun p hp => ?_)
    · unfold otherB
      rw [if_pos (by simp)]
      have hf : fitsB ⟨5, ((someN l).length : Nat), 0, 0, [], 0⟩ = true := by
        have hn : fitsNB 5 ((someN l).length : Nat) = true := by
          unfold fitsNB
          rw [if_neg (by omega), if_neg (by omega), if_neg (by omega), if_pos (by omega)]
          simp; omega
        show (fitsNB 5 ((someN l).length : Nat) && fitsIB 5 0 0 && fitsAB ⟨5, ((someN l).length : Nat), 0, 0, [], 0⟩) = true
        rw [hn]; rfl
      rw [hf]; rfl
    · have h0 : isB p 0 = false := by
        unfold surelyN at hs
        rw [List.any_eq_false] at hs
        have := hs p hp
        cases q : isB p 0 with
        | false => rfl
        | true => rw [q] at this; simp at this
      exact ⟨fun q => by simp at q, fun _ => ⟨(hS p hp).2.1, h0, (hS p hp).2.2⟩, fun q => by simp at q⟩
theorem tidy_and {l : List (List Nd)} (h : ∀ p ∈ l, TidyP p) (hl : ∀ p ∈ l, p.length ≤ 1152921504606846976) : TidyP (andL l) := by
  refine tidy_not (tidy_or (fun p hp => ?_) (fun p hp => ?_))
  · obtain ⟨q, hq, rfl⟩ := List.mem_map.1 hp
    exact tidy_not (h q hq)
  · obtain ⟨q, hq, rfl⟩ := List.mem_map.1 hp
    have := notL_len q
    have := hl q hq
    omega
theorem tidy_put {x : Nd} {l : List (List Nd)} (hx : fitsB x = true) (hv : neverB x.fr x.to = false) (hn : l.length = x.n.toNat) (h : ∀ p ∈ l, TidyP p) (hl : ∀ p ∈ l, p.length ≤ 1152921504606846976) : TidyP (putL x l) := by
  have one : x.op = 3 ∨ x.op = 7 ∨ x.op = 8 ∨ x.op = 9 → TidyP (l.getD 0 []) := fun ho => by
    have := fits_one hx ho
    obtain ⟨p, rfl⟩ := List.length_eq_one_iff.1 (show l.length = 1 by rw [hn, this]; rfl)
    exact h p (by simp)
  have two : x.op = 6 ∨ x.op = 10 → ∃ p q, l = [p, q] := fun ho => by
    have := fits_two hx ho
    have e : l.length = 2 := by rw [hn, this]; rfl
    match l, e with
    | [p, q], _ => exact ⟨p, q, rfl⟩
  unfold putL
  split
  · rename_i ho; exact tidy_not (one (.inl ho))
  · split
    · exact tidy_and h hl
    · split
      · exact tidy_or h fun p hp => by have := hl p hp; omega
      · split
        · rename_i ho
          obtain ⟨p, q, rfl⟩ := two (.inl ho)
          refine tidy_or (fun r hr => ?_) (fun r hr => ?_)
          · simp only [List.getD_cons_zero, List.getD_cons_succ, List.mem_cons, List.not_mem_nil, or_false] at hr
            rcases hr with rfl | rfl
            · exact tidy_not (h p (by simp))
            · exact h _ (by simp)
          · simp only [List.getD_cons_zero, List.getD_cons_succ, List.mem_cons, List.not_mem_nil, or_false] at hr
            rcases hr with rfl | rfl
            · have := notL_len p; have := hl p (by simp); omega
            · have := hl r (by simp); omega
        · split
          · rename_i ho; exact tidy_prev (one (.inr (.inl ho)))
          · split
            · rename_i ho; exact tidy_since tidy_tt (one (.inr (.inr (.inl ho)))) (fits_time hx (.inl ho))
            · split
              · rename_i ho; exact tidy_not (tidy_since tidy_tt (tidy_not (one (.inr (.inr (.inr ho))))) (fits_time hx (.inr (.inl ho))))
              · split
                · rename_i ho
                  obtain ⟨p, q, rfl⟩ := two (.inr ho)
                  exact tidy_since (h p (by simp)) (h q (by simp)) (fits_time hx (.inr (.inr ho)))
                · rename_i n3 n4 n5 n6 n7 n8 n9 n10
                  have ho : x.op = 0 ∨ x.op = 1 ∨ x.op = 2 := by
                    have h1 := hx
                    unfold fitsB at h1
                    simp only [Bool.and_eq_true] at h1
                    have h2 := h1.1.1
                    unfold fitsNB at h2
                    split at h2
                    · assumption
                    · rw [if_neg (by omega), if_neg (by omega), if_neg (by omega)] at h2; cases h2
                  have h0 : x.n = 0 := by
                    have h1 := hx
                    unfold fitsB at h1
                    simp only [Bool.and_eq_true] at h1
                    have h2 := h1.1.1
                    unfold fitsNB at h2
                    rw [if_pos ho] at h2
                    simpa using h2
                  have e : ({ x with n := 0 } : Nd) = x := by rw [← h0]
                  rw [e]
                  refine TidyP.mk x [] (fun p hp => by simp at hp) (by rw [h0]; rfl) ?_ (fun p hp => by simp at hp)
                  unfold otherB
                  rw [if_pos (by omega), hx, hv]; rfl
theorem tidy_norm (d : Nat) : ∀ n : List Nd, PartD d n → n.length ≤ 1000 → GoodN n → (∀ y ∈ n, neverB y.fr y.to = false) → TidyP (normD d n) := by
  induction d with
  | zero => intro n h; have := h []; simp [restD] at this
  | succ d ih =>
    intro n h hl hg hv
    cases n with
    | nil => exact absurd rfl h.ne
    | cons x t =>
      obtain ⟨hf, hk, hfl, hps⟩ := h.kids hl
      have hsub : ∀ p ∈ splitL t, ∀ y ∈ p, y ∈ x :: t := fun p hp y hy => List.mem_cons_of_mem _ (by rw [← hfl]; exact List.mem_flatten.2 ⟨p, hp, hy⟩)
      have hlen : ∀ p ∈ splitL t, p.length ≤ 1000 := fun p hp => by
        have : p.length ≤ (splitL t).flatten.length := by
          obtain ⟨A, B, e⟩ := List.append_of_mem hp
          rw [e]; simp; omega
        rw [hfl] at this
        simp only [List.length_cons] at hl
        omega
      have hgp : ∀ p ∈ splitL t, GoodN p := fun p hp y hy => hg y (hsub p hp y hy)
      show TidyP (putL x ((splitL t).map (normD d)))
      refine tidy_put hf (hv x (by simp)) (by rw [List.length_map]; exact hk) (fun q hq => ?_) (fun q hq => ?_)
      · obtain ⟨p, hp, rfl⟩ := List.mem_map.1 hq
        exact ih p (hps p hp) (hlen p hp) (hgp p hp) fun y hy => hv y (hsub p hp y hy)
      · obtain ⟨p, hp, rfl⟩ := List.mem_map.1 hq
        have := (norm_ok d p (hps p hp) (hlen p hp) (hgp p hp)).2
        have := hlen p hp
        omega
/-- What is told, when it is no error. -/
theorem normR_ok {l : List Nd} (h : (normR l).2 = 0) (hg : GoodN l) : isCoreB (normR l).1 = true ∧ (∀ i, i + 1 < (normR l).1.length → ¬ BadP ((normR l).1.getD i nd0) ((normR l).1.getD (i + 1) nd0)) ∧ (normR l).1.length ≤ 600 ∧ GoodN (normR l).1 := by
  unfold normR at h ⊢
  split
  · rename_i hv; rw [if_pos hv] at h; cases h
  · rename_i hv
    rw [if_neg hv] at h
    split
    · rename_i hb; rw [if_pos hb] at h; cases h
    · rename_i hb
      rw [if_neg hb] at h
      split
      · rename_i hl; rw [if_pos hl] at h; cases h
      · rename_i hl
        have hv' : validB l = true := by simpa using hv
        obtain ⟨h1, h2⟩ := valid_rest hv'
        obtain ⟨p, hp, hd⟩ := rest_part 24 l [] h2
        rw [List.append_nil] at hp
        subst hp
        have hn : ∀ y ∈ l, neverB y.fr y.to = false := fun y hy => by
          have hb' : l.any beyondB = false := by simpa using hb
          rw [List.any_eq_false] at hb'
          have := hb' y hy
          unfold beyondB at this
          simp only [Bool.or_eq_true, not_or, Bool.not_eq_true] at this
          exact this.1.1
        have ht := tidy_norm 24 l hd (by omega) hg hn
        simp only [Bool.not_eq_true] at *
        have hlen : (normD 24 l).length ≤ 600 := by omega
        refine ⟨tidy_core ht (Nat.le_trans hlen (by decide)), adj_at _ (by have := tidy_adj ht [] trivial; rwa [List.append_nil] at this), hlen, (norm_ok 24 l hd (by omega) hg).1⟩
end Go.Proofs.Ytpgdkgilmcipkaa
