/- The contract of kinds' sum. Conditions: the numbers' own ranges, signals with spans that are not empty. -/
import Derived.Test.YtjnnjjajlafchaaKnJ
namespace Go.Proofs.Ytjnnjjajlafchaa
open Go.RowKit
set_option linter.unusedVariables false
set_option maxRecDepth 100000

theorem Kept.mod {b : Nat} {x y : World} (h : Kept b x y) : Mod [b] x y := ⟨h.os, h.tape, h.output, h.size, fun k hk hs => h.block k hk (by simpa using hs)⟩
def sigOf (l : List Sig) (s : ByteArray) : Sig := l.getD (idxN l s) sig0
def timesS (l : List Sig) (t : Tm) : Int × Int := (crossLo (sigOf l t.name).lo (sigOf l t.name).hi t.times t.times, crossHi (sigOf l t.name).lo (sigOf l t.name).hi t.times t.times)
def timesO (l : List Sig) (t : Tm) : Bool := crossOv (sigOf l t.name).lo (sigOf l t.name).hi t.times t.times false || crossOv (sigOf l t.name).lo (sigOf l t.name).hi t.times t.times true
def sumLo (l : List Sig) (ts : List Tm) : Int := sumL ((ts.map (timesS l)).map Prod.fst)
def sumHi (l : List Sig) (ts : List Tm) : Int := sumL ((ts.map (timesS l)).map Prod.snd)
def sumO (l : List Sig) (ts : List Tm) : Bool := ts.any (timesO l) || (overF (sumLo l ts) || overF (sumHi l ts))
/-- What a sum tells. -/
def sumR (l : List Sig) (ts : List Tm) : Int × Int × Int := if sumO l ts then (0, 0, 10) else (clampF (sumLo l ts), clampF (sumHi l ts), 0)
def SigsFit (l : List Sig) : Prop := ∀ x ∈ l, x.lo ≤ x.hi ∧ B64 x.lo ∧ B64 x.hi
def TimesFit (ts : List Tm) : Prop := ∀ t ∈ ts, B64 t.times
def spanC (x : Int × Int) : List Value := [.int .i64 x.1, .int .i64 x.2]
theorem spanC_len (x : Int × Int) : (spanC x).length = 2 := rfl
theorem spanC_one (x : Int × Int) : ∀ u ∈ spanC x, u.oneCell' = true := by
  intro u hu
  simp only [spanC, List.mem_cons, List.not_mem_nil, or_false] at hu
  rcases hu with rfl | rfl <;> rfl
theorem infoSpan : (Try.prog.info? 25).map (fun i => (i.zero, i.size, i.bytes)) = some (some (.agg #[.int .i64 0, .int .i64 0]), 2, 16) := by kernel_rfl
def OSpan (W : World) (B : Nat) (v : Value) (l : List (Int × Int)) : Prop := Own spanC 25 2 W B v l
theorem OSpan.row {W : World} {B : Nat} {v : Value} {l : List (Int × Int)} (h : OSpan W B v l) : ∃ a cap, v = .slice a l.length cap ∧ SpanRow W a l ∧ ∀ x, a = some x → B ≤ x.block := by
  obtain ⟨a, cap, rfl, h1, h2, h3⟩ := Own.sl spanC_len (0, 0) h
  refine ⟨a, cap, rfl, fun i hi => ?_, fun x hx => ?_⟩
  · obtain ⟨g, rfl, _, _, hj⟩ := h3 i hi
    refine ⟨g, 0, rfl, ?_, ?_⟩
    · have := hj 0 (by omega); simpa [spanC] using this
    · have := hj 1 (by omega); simpa [spanC] using this
  · obtain ⟨g, rfl, hg, _⟩ := h2 x hx; exact hg
theorem any_take {X : Type} (q : X → Bool) (z : X) (l : List X) (k : Nat) (hk : k < l.length) : (l.take (k + 1)).any q = ((l.take k).any q || q (l.getD k z)) := by
  rw [List.take_succ_eq_append_getElem hk, List.any_append]
  simp [List.getD_eq_getElem?_getD, hk]
theorem map_takeS (l : List Sig) (ts : List Tm) (k : Nat) (hk : k < ts.length) : (ts.map (timesS l)).take (k + 1) = (ts.map (timesS l)).take k ++ [timesS l (ts.getD k tm0)] := by
  rw [List.take_succ_eq_append_getElem (by simpa using hk)]
  simp [List.getD_eq_getElem?_getD, hk]
theorem sigOf_fit {l : List Sig} (h : SigsFit l) {s : ByteArray} (hi : idxN l s < l.length) : (sigOf l s).lo ≤ (sigOf l s).hi ∧ B64 (sigOf l s).lo ∧ B64 (sigOf l s).hi := by
  refine h _ ?_
  unfold sigOf
  rw [List.getD_eq_getElem?_getD, List.getElem?_eq_getElem hi]; exact List.getElem_mem hi
theorem cross_b64 {a b c : Int} : B64 (crossLo a b c c) ∧ B64 (crossHi a b c c) := by
  have k := fun x => clampF_bd x
  unfold crossLo crossHi min4 max4 B64
  have k1 := k (mulF a c false); have k2 := k (mulF b c false); have k3 := k (mulF a c true); have k4 := k (mulF b c true)
  omega
theorem sums_fit {l : List Sig} {ts : List Tm} : FitsS (ts.map (timesS l)) := by
  constructor
  · intro x hx
    simp only [List.map_map, List.mem_map, Function.comp] at hx
    obtain ⟨t, _, rfl⟩ := hx
    exact cross_b64.1
  · intro x hx
    simp only [List.map_map, List.mem_map, Function.comp] at hx
    obtain ⟨t, _, rfl⟩ := hx
    exact cross_b64.2
theorem sums_some {l : List Sig} {ts : List Tm} (h : SigsFit l) (hi : ts.all (fun t => hasB l t.name) = true) : anyE (ts.map (timesS l)) = false := by
  unfold anyE
  rw [List.any_eq_false]
  intro x hx
  simp only [List.mem_map] at hx
  obtain ⟨t, ht, rfl⟩ := hx
  rw [List.all_eq_true] at hi
  have := cross_some (sigOf_fit h (hasB_lt (hi t ht))).1 (Int.le_refl t.times)
  have e : ¬ (timesS l t).2 < (timesS l t).1 := by show ¬ (crossHi _ _ _ _ < crossLo _ _ _ _); omega
  simpa using e
/-- What holds at the head of sum's loop. -/
structure SumInv (W W2 : World) (A : Nat) (l : List Sig) (ts : List Tm) (k : Nat) (v : Value) (wr : World) : Prop where
  live : Live W A wr ((ts.take k).any (timesO l))
  kept : Kept A W2 wr
  own : OSpan wr W2.heap.size v ((ts.map (timesS l)).take k)
theorem SumInv.stays {W W2 : World} {A : Nat} {l : List Sig} {ts : List Tm} {k : Nat} {v : Value} {wr wr' : World} (h : SumInv W W2 A l ts k v wr) (b : Below wr.heap.size wr wr') : SumInv W W2 A l ts k v wr' :=
  ⟨h.live.stays b, h.kept.below b, Own.below h.own b⟩
theorem sum_step {W W2 : World} {A : Nat} {l : List Sig} {ts : List Tm} {k : Nat} {v : Value} {wr W4 : World} (h : SumInv W W2 A l ts k v wr) (hA : A < W2.heap.size) (hk : k < ts.length) (hm : ts.length ≤ 100000)
    (hl4 : Live W A W4 ((ts.take k).any (timesO l) || timesO l (ts.getD k tm0))) (hk4 : Kept A wr W4) :
    ∃ a n c X, (Builtin.append_ #[100, 100] 100 #[v, .slice (some ⟨W4.heap.size, 0, none⟩) 1 1]).run Try.prog (W4.alloc (.cells #[.int .i64 (timesS l (ts.getD k tm0)).1, .int .i64 (timesS l (ts.getD k tm0)).2] 25)) = .ok (.slice a n c) X ∧ SumInv W W2 A l ts (k + 1) (.slice a n c) X := by
  obtain ⟨Y, hY⟩ : ∃ Y, W4.alloc (.cells #[.int .i64 (timesS l (ts.getD k tm0)).1, .int .i64 (timesS l (ts.getD k tm0)).2] 25) = Y := ⟨_, rfl⟩
  have hY4 : Mod [] W4 Y := by rw [← hY]; exact (Mod.refl _ _).alloc _
  have hnb : ∀ g, v.ownBlock = some g → g ∉ [A] := fun g hg => by have := (Own.lt h.own g hg).1; simp; omega
  have hoY : OSpan Y W2.heap.size v ((ts.map (timesS l)).take k) := (Own.mod h.own hk4.mod hnb).mod hY4 (by simp)
  have hsz : W2.heap.size ≤ Y.heap.size := by have := h.kept.size; have := hk4.size; have := hY4.size; omega
  obtain ⟨v', X, hr, ho, hg, hat⟩ := Own.append spanC_len spanC_one Try.underlying100 infoSpan rfl (by omega) Y W2.heap.size v _ hoY (timesS l (ts.getD k tm0)) W4.heap.size
    (by intro j hj; rw [← hY]; have : j = 0 ∨ j = 1 := by omega
        rcases this with rfl | rfl <;> simp [go_sem, spanC]) (by unfold maxLen; rw [List.length_take]; simp; omega) (by rw [List.length_take]; simp; omega) hsz
  obtain ⟨a, c, hv', _⟩ := Own.sl spanC_len (0, 0) ho
  subst hv'
  rw [hY]
  refine ⟨_, _, _, X, hr, ?_, ?_, ?_⟩
  · rw [any_take _ tm0 _ _ hk]
    have hlY : Live W A Y ((ts.take k).any (timesO l) || timesO l (ts.getD k tm0)) := by rw [← hY]; exact hl4.alloc _
    have m := Mod.grown hg
    have hnA : A ∉ v.ownBlock.toList := fun hh => by have := hnb A (by simpa using hh); simp at this
    refine ⟨m.cell hlY.cell hnA, (m.frozen hlY.old hnA).trans hlY.frz, hlY.new, Nat.lt_of_lt_of_le hlY.old m.size, ?_⟩
    exact hlY.below.trans (m.belowOf hlY.below.size fun g hg => by have := (Own.lt h.own g (by simpa using hg)).1; have := hlY.new; omega)
  · have s1 := h.kept.size
    have s2 := hk4.size
    have s3 := hY4.size
    refine ⟨hg.os.trans (hY4.os.trans (hk4.os.trans h.kept.os)), hg.tape.trans (hY4.tape.trans (hk4.tape.trans h.kept.tape)), hg.output.trans (hY4.output.trans (hk4.output.trans h.kept.output)), Nat.le_trans hsz hg.size, fun q hq hqA => ?_⟩
    refine (hg.block q (by omega) fun e => ?_).trans ((hY4.block q (by omega) (by simp)).trans ((hk4.block q (by omega) hqA).trans (h.kept.block q hq hqA)))
    have := (Own.lt h.own q e.symm).1
    omega
  · rw [map_takeS _ _ _ hk]; exact ho
set_option maxHeartbeats 8000000 in
theorem sum_any (p : Nat) (l : List Sig) (ta : Option Addr) (tc : Nat) (ts : List Tm) (W : World) (hp : NmAt W p l) (hl : l.length ≤ 1000000) (h : TermRow W ta ts) (hm : ts.length ≤ 100000) (hs : SigsFit l) (ht : TimesFit ts) (hi : ts.all (fun t => hasB l t.name) = true) :
    Calls Try.prog 29 #[.pointer (some ⟨p, 0, none⟩), .slice ta ts.length tc] W fun e W' => e = .returned (.tuple #[.agg #[.int .i64 (sumR l ts).1, .int .i64 (sumR l ts).2.1], .int .i64 (sumR l ts).2.2]) ∧ Below W.heap.size W W' := by
  have HP : Hid (∀ X, Below W.heap.size W X → NmAt X p l) := fun X hX => hp.below hX
  have HR : Hid (TermRow W ta ts) := h
  have HS : Hid (SigsFit l) := hs
  have HT : Hid (TimesFit ts) := ht
  have HI : Hid (ts.all (fun t => hasB l t.name) = true) := hi
  obtain ⟨W2, hW2⟩ : ∃ W2, (W.alloc (.cells #[.int .i64 0, .int .i64 0] 25)).alloc (.cells #[.bool false] 99) = W2 := ⟨_, rfl⟩
  have s2 : W2.heap.size = W.heap.size + 2 := by rw [← hW2]; simp
  have HI0 : Hid (SumInv W W2 (W.heap.size + 1) l ts 0 (.slice none 0 0) ((W.alloc (.cells #[.int .i64 0, .int .i64 0] 25)).alloc (.cells #[.bool false] 99))) := by
    refine ⟨⟨by simp [go_sem], by simp [go_sem], by omega, by simp, ?_⟩, by rw [hW2]; exact Kept.refl _ _, Own.nil _ _ _ _ _⟩
    exact ((Below.refl _ _).alloc (Nat.le_refl _) _).alloc (by simp) _
  have HC : Hid (∀ X, Kept (W.heap.size + 1) W2 X → X.cell? ⟨W.heap.size, 0, none⟩ = some (.int .i64 0) ∧ X.cell? ⟨W.heap.size, 1, none⟩ = some (.int .i64 0) ∧ X.frozen? ⟨W.heap.size, 0, none⟩ = false ∧ X.frozen? ⟨W.heap.size, 1, none⟩ = false) := by
    intro X hX
    have e0 : W2.cell? ⟨W.heap.size, 0, none⟩ = some (.int .i64 0) := by rw [← hW2]; simp [go_sem]
    have e1 : W2.cell? ⟨W.heap.size, 1, none⟩ = some (.int .i64 0) := by rw [← hW2]; simp [go_sem]
    have f0 : W2.frozen? ⟨W.heap.size, 0, none⟩ = false := by rw [← hW2]; simp [go_sem]
    have f1 : W2.frozen? ⟨W.heap.size, 1, none⟩ = false := by rw [← hW2]; simp [go_sem]
    exact ⟨hX.cell e0 (by omega), hX.cell e1 (by omega), (hX.frz (by omega) (by omega)).trans f0, (hX.frz (by omega) (by omega)).trans f1⟩
  have HAW : Hid (W.heap.size + 1 < W2.heap.size) := by show _ < _; omega
  clear hp h hs ht hi hW2 s2
  go_enter Try.func29, Try.ntmps29
  go_wp2
  go_loopw [7, 13] (fun v i wr => ∃ (k : Nat) (v0 : Value), k ≤ ts.length ∧ i = .int .i64 k ∧ v0 = v ∧ SumInv W W2 (W.heap.size + 1) l ts k v0 wr) (fun _ i _ => ts.length - (intOf i).toNat)
  case atStart => exact ⟨0, _, Nat.zero_le _, rfl, rfl, HI0.out⟩
  case round =>
    obtain ⟨k, v0, hk, rfl, rfl, hi⟩ := hrel
    have HV : Hid (SumInv W W2 (W.heap.size + 1) l ts k v0 wr) := hi
    have HB : Hid (Below W.heap.size W wr) := hi.live.below
    clear hi
    by_cases hlt : k < ts.length
    · obtain ⟨b, off, rfl, h0, h1⟩ := HR.out.below HB.out k hlt
      have hik := hasB_lt (allP_at (fun t => hasB l t.name) ts k hlt HI.out)
      have hfit := sigOf_fit HS.out hik
      have htt : B64 (ts.getD k tm0).times := HT.out _ (by rw [List.getD_eq_getElem?_getD, List.getElem?_eq_getElem hlt]; exact List.getElem_mem hlt)
      have HNm : Hid (∀ X, Below W.heap.size W X → Calls Try.prog 46 #[.pointer (some ⟨p, 0, none⟩), .string (ts.getD k tm0).name] X fun e W' => e = .returned (.agg #[.string (sigOf l (ts.getD k tm0).name).name, .string (sigOf l (ts.getD k tm0).name).unit, .int .i64 (sigOf l (ts.getD k tm0).name).lo, .int .i64 (sigOf l (ts.getD k tm0).name).hi]) ∧ Below X.heap.size X W') :=
        fun X hX => named_any p l _ X (HP.out X hX) hl hik
      have HTm : Hid (∀ X, SumInv W W2 (W.heap.size + 1) l ts k v0 X → Calls Try.prog 45 #[.pointer (some ⟨W.heap.size + 1, 0, none⟩), (.agg #[.int .i64 ((sigOf l (ts.getD k tm0).name).lo), .int .i64 ((sigOf l (ts.getD k tm0).name).hi)]), .int .i64 (ts.getD k tm0).times] X fun e X4 => e = .returned ((.agg #[.int .i64 ((timesS l (ts.getD k tm0)).1), .int .i64 ((timesS l (ts.getD k tm0)).2)])) ∧ Live W (W.heap.size + 1) X4 ((ts.take k).any (timesO l) || timesO l (ts.getD k tm0)) ∧ Kept (W.heap.size + 1) X X4) :=
        fun X hX => stimes_some hX.live _ _ _ hfit.1 hfit.2.1 hfit.2.2 htt
      have HAp : Hid (∀ X W4, SumInv W W2 (W.heap.size + 1) l ts k v0 X → Live W (W.heap.size + 1) W4 ((ts.take k).any (timesO l) || timesO l (ts.getD k tm0)) → Kept (W.heap.size + 1) X W4 → ∃ a n c Y, (Builtin.append_ #[100, 100] 100 #[v0, .slice (some ⟨W4.heap.size, 0, none⟩) 1 1]).run Try.prog (W4.alloc (.cells #[.int .i64 (timesS l (ts.getD k tm0)).1, .int .i64 (timesS l (ts.getD k tm0)).2] 25)) = .ok (.slice a n c) Y ∧ SumInv W W2 (W.heap.size + 1) l ts (k + 1) (.slice a n c) Y) :=
        fun X W4 hX h1 h2 => sum_step hX HAW.out hlt hm h1 h2
      clear hik hfit htt
      generalize sigOf l (ts.getD k tm0).name = s1 at *
      generalize (timesS l (ts.getD k tm0)).1 = t1 at *
      generalize (timesS l (ts.getD k tm0)).2 = t2 at *
      generalize timesO l (ts.getD k tm0) = to at *
      generalize (ts.getD k tm0).name = tn at *
      generalize (ts.getD k tm0).times = tt at *
      obtain ⟨xn, xu, xl, xh⟩ := s1
      simp only at HNm HTm
      have hfl := fld2 xn xu xl xh
      have HV1 : Hid (SumInv W W2 (W.heap.size + 1) l ts k v0 (wr.alloc (.cells #[.string tn, .int .i64 tt] 74)).drew) := HV.out.stays (((Below.refl _ _).alloc (Nat.le_refl _) _).drew)
      go_wp2_with fail
      refine wp_region_held_drew (S := fun _ => True) (by kernel_rfl) trivial (fun hHeld => ?_)
      refine wpAnyH_take (i := 0) (oi := { dst := some 17, op := Op.move (Operand.tmp 7), type := 100, pos := "check.go:75", after := #[], guard := none }) (v := ?_) rfl (by kernel_rfl) (by kernel_rfl) (by kernel_rfl) (fun _ _ _ h => h) (Or.inl ⟨by rfl, ?_⟩) hHeld ?_
      rotate_left
      · (intro w hSw; (try dsimp only at hSw); go_simp; all_goals (try with_reducible rfl))
      try simp only [Act.put, List.setIfInBounds_toArray, List.set_cons_zero, List.set_cons_succ]
      refine wpAnyH_take (i := 1) (oi := { dst := some 18, op := Op.move (Operand.tmp 0), type := 28, pos := "check.go:75", after := #[], guard := none }) (v := ?_) rfl (by kernel_rfl) (by kernel_rfl) (by kernel_rfl) (fun _ _ _ h => h) (Or.inl ⟨by rfl, ?_⟩) hHeld ?_
      rotate_left
      · (intro w hSw; (try dsimp only at hSw); go_simp; all_goals (try with_reducible rfl))
      try simp only [Act.put, List.setIfInBounds_toArray, List.set_cons_zero, List.set_cons_succ]
      refine wpAnyH_take (i := 2) (oi := { dst := some 19, op := Op.fieldAddr 74 (Operand.tmp 9) 0, type := 0, pos := "check.go:75", after := #[], guard := none }) (v := ?_) rfl (by kernel_rfl) (by kernel_rfl) (by kernel_rfl) (fun _ _ _ h => h) (Or.inl ⟨by rfl, ?_⟩) hHeld ?_
      rotate_left
      · (intro w hSw; (try dsimp only at hSw); go_simp; all_goals (try with_reducible rfl))
      try simp only [Act.put, List.setIfInBounds_toArray, List.set_cons_zero, List.set_cons_succ]
      refine wpAnyH_take (i := 6) (oi := { dst := some 23, op := Op.fieldAddr 74 (Operand.tmp 9) 1, type := 0, pos := "check.go:75", after := #[], guard := none }) (v := ?_) rfl (by kernel_rfl) (by kernel_rfl) (by kernel_rfl) (fun _ _ _ h => h) (Or.inl ⟨by rfl, ?_⟩) hHeld ?_
      rotate_left
      · (intro w hSw; (try dsimp only at hSw); go_simp; all_goals (try with_reducible rfl))
      try simp only [Act.put, List.setIfInBounds_toArray, List.set_cons_zero, List.set_cons_succ]
      refine wpAnyH_ready (rs := [3, 7]) (by kernel_rfl) (by simp) ?_
      refine AllReadyH.cons (o := { dst := some 20, op := Op.load 9 (Operand.tmp 19), type := 9, pos := "check.go:75", after := #[{ on := 2, ground := Ground.data }], guard := none }) rfl (fun K hK => ?_) ?_
      · skip
        go_simp
        refine hK.out _ _ trivial (fun hHeld => ?_)
        clear hK K
        try simp only [Act.put, List.setIfInBounds_toArray, List.set_cons_zero, List.set_cons_succ]
        refine wpAnyH_ready (rs := [4, 7]) (by kernel_rfl) (by simp) ?_
        refine AllReadyH.cons (o := { dst := some 21, op := Op.call { callee := Callee.value (Operand.func 46), args := #[Operand.tmp 18, Operand.tmp 20], argTypes := #[28, 9] }, type := 27, pos := "check.go:75", after := #[{ on := 1, ground := Ground.data }, { on := 3, ground := Ground.data }], guard := none }) rfl (fun K hK => ?_) ?_
        · skip
          go_simp
          refine Calls.mono (HNm.out _ HV1.out.live.below) ?_
          rintro e W3 ⟨rfl, hb3⟩
          have HV3 : Hid (SumInv W W2 (W.heap.size + 1) l ts k v0 W3) := HV1.out.stays hb3
          have q1 : W3.cell? ⟨wr.heap.size, 1, none⟩ = some (.int .i64 tt) := by rw [hb3.cell (p := ⟨wr.heap.size, 1, none⟩) (by simp)]; simp [go_sem]
          clear hb3
          go_wp2_with fail
          refine hK.out _ _ trivial (fun hHeld => ?_)
          clear hK K
          try simp only [Act.put, List.setIfInBounds_toArray, List.set_cons_zero, List.set_cons_succ]
          refine wpAnyH_take (i := 5) (oi := { dst := some 22, op := Op.field 27 (Operand.tmp 21) 2, type := 25, pos := "check.go:75", after := #[{ on := 4, ground := Ground.data }], guard := none }) (v := ?_) rfl (by kernel_rfl) (by kernel_rfl) (by kernel_rfl) (fun _ _ _ h => h) (Or.inl ⟨by rfl, ?_⟩) hHeld ?_
          rotate_left
          · (intro w hSw; (try dsimp only at hSw); go_simp; all_goals (try with_reducible rfl))
          try simp only [Act.put, List.setIfInBounds_toArray, List.set_cons_zero, List.set_cons_succ]
          refine wpAnyH_ready (rs := [7]) (by kernel_rfl) (by simp) ?_
          refine AllReadyH.cons (o := { dst := some 24, op := Op.load 3 (Operand.tmp 23), type := 3, pos := "check.go:75", after := #[{ on := 6, ground := Ground.data }], guard := none }) rfl (fun K hK => ?_) AllReadyH.nil
          go_simp
          refine hK.out _ _ trivial (fun hHeld => ?_)
          clear hK K
          try simp only [Act.put, List.setIfInBounds_toArray, List.set_cons_zero, List.set_cons_succ]
          refine wpAnyH_ready (rs := [8]) (by kernel_rfl) (by simp) ?_
          refine AllReadyH.cons (o := { dst := some 25, op := Op.call { callee := Callee.value (Operand.func 45), args := #[Operand.tmp 6, Operand.tmp 22, Operand.tmp 24], argTypes := #[99, 25, 3] }, type := 25, pos := "check.go:75", after := #[{ on := 5, ground := Ground.data }, { on := 7, ground := Ground.data }, { on := 4, ground := Ground.chain }], guard := none }) rfl (fun K hK => ?_) AllReadyH.nil
          go_simp
          refine Calls.mono (HTm.out _ HV3.out) ?_
          rintro e W4 ⟨rfl, hl4, hk4⟩
          have HL4 : Hid (Live W (W.heap.size + 1) W4 ((ts.take k).any (timesO l) || to) ∧ Kept (W.heap.size + 1) W3 W4) := ⟨hl4, hk4⟩
          clear hl4 hk4
          go_wp2_with fail
          refine hK.out _ _ trivial (fun hHeld => ?_)
          clear hK K
          try simp only [Act.put, List.setIfInBounds_toArray, List.set_cons_zero, List.set_cons_succ]
          refine wpAnyH_ready (rs := [9]) (by kernel_rfl) (by simp) ?_
          refine AllReadyH.cons (o := { dst := some 26, op := Op.buildSlice 100 1 #[(0, Operand.tmp 25)], type := 100, pos := "check.go:75", after := #[{ on := 8, ground := Ground.data }], guard := none }) rfl (fun K hK => ?_) AllReadyH.nil
          go_simp
          refine hK.out _ _ trivial (fun hHeld => ?_)
          clear hK K
          try simp only [Act.put, List.setIfInBounds_toArray, List.set_cons_zero, List.set_cons_succ]
          refine wpAnyH_ready (rs := [10]) (by kernel_rfl) (by simp) ?_
          refine AllReadyH.cons (o := { dst := some 27, op := Op.call { callee := Callee.builtin Builtin.append, args := #[Operand.tmp 17, Operand.tmp 26], argTypes := #[100, 100] }, type := 100, pos := "check.go:75", after := #[{ on := 0, ground := Ground.data }, { on := 9, ground := Ground.data }, { on := 8, ground := Ground.chain }], guard := none }) rfl (fun K hK => ?_) AllReadyH.nil
          obtain ⟨a9, n9, c9, Y, hr, hY⟩ := HAp.out W3 W4 HV3.out HL4.out.1 HL4.out.2
          have HY : Hid (SumInv W W2 (W.heap.size + 1) l ts (k + 1) (.slice a9 n9 c9) Y) := hY
          clear hY
          refine append_stepO (by rfl) _ _ (by rfl) (by rfl) _ _ _ _ (by rfl) (by rfl) hr ?_
          clear hr
          refine hK.out _ _ trivial (fun hHeld => ?_)
          clear hK K
          try simp only [Act.put, List.setIfInBounds_toArray, List.set_cons_zero, List.set_cons_succ]
          refine wpAnyH_take (i := 11) (oi := { dst := some 7, op := Op.assign (Operand.tmp 27), type := 100, pos := "check.go:75", after := #[{ on := 10, ground := Ground.data }, { on := 10, ground := Ground.chain }, { on := 0, ground := Ground.phase }, { on := 1, ground := Ground.phase }, { on := 2, ground := Ground.phase }, { on := 3, ground := Ground.phase }, { on := 4, ground := Ground.phase }, { on := 5, ground := Ground.phase }, { on := 6, ground := Ground.phase }, { on := 7, ground := Ground.phase }, { on := 8, ground := Ground.phase }, { on := 9, ground := Ground.phase }, { on := 10, ground := Ground.phase }], guard := none }) (v := ?_) rfl (by kernel_rfl) (by kernel_rfl) (by kernel_rfl) (fun _ _ _ h => h) (Or.inl ⟨by rfl, ?_⟩) hHeld ?_
          rotate_left
          · (intro w hSw; (try dsimp only at hSw); go_simp; all_goals (try with_reducible rfl))
          try simp only [Act.put, List.setIfInBounds_toArray, List.set_cons_zero, List.set_cons_succ]
          refine wpAnyH_done (by kernel_rfl) ?_ _
          go_wp2
          go_roundw
          case rel => exact ⟨k + 1, _, by omega, by go_num, rfl, HY.out⟩
          case measure => simp [intOf]; omega
        refine AllReadyH.cons (o := { dst := some 24, op := Op.load 3 (Operand.tmp 23), type := 3, pos := "check.go:75", after := #[{ on := 6, ground := Ground.data }], guard := none }) rfl (fun K hK => ?_) AllReadyH.nil
        go_simp
        refine hK.out _ _ trivial (fun hHeld => ?_)
        clear hK K
        try simp only [Act.put, List.setIfInBounds_toArray, List.set_cons_zero, List.set_cons_succ]
        refine wpAnyH_ready (rs := [4]) (by kernel_rfl) (by simp) ?_
        refine AllReadyH.cons (o := { dst := some 21, op := Op.call { callee := Callee.value (Operand.func 46), args := #[Operand.tmp 18, Operand.tmp 20], argTypes := #[28, 9] }, type := 27, pos := "check.go:75", after := #[{ on := 1, ground := Ground.data }, { on := 3, ground := Ground.data }], guard := none }) rfl (fun K hK => ?_) AllReadyH.nil
        go_simp
        refine Calls.mono (HNm.out _ HV1.out.live.below) ?_
        rintro e W3 ⟨rfl, hb3⟩
        have HV3 : Hid (SumInv W W2 (W.heap.size + 1) l ts k v0 W3) := HV1.out.stays hb3
        have q1 : W3.cell? ⟨wr.heap.size, 1, none⟩ = some (.int .i64 tt) := by rw [hb3.cell (p := ⟨wr.heap.size, 1, none⟩) (by simp)]; simp [go_sem]
        clear hb3
        go_wp2_with fail
        refine hK.out _ _ trivial (fun hHeld => ?_)
        clear hK K
        try simp only [Act.put, List.setIfInBounds_toArray, List.set_cons_zero, List.set_cons_succ]
        refine wpAnyH_take (i := 5) (oi := { dst := some 22, op := Op.field 27 (Operand.tmp 21) 2, type := 25, pos := "check.go:75", after := #[{ on := 4, ground := Ground.data }], guard := none }) (v := ?_) rfl (by kernel_rfl) (by kernel_rfl) (by kernel_rfl) (fun _ _ _ h => h) (Or.inl ⟨by rfl, ?_⟩) hHeld ?_
        rotate_left
        · (intro w hSw; (try dsimp only at hSw); go_simp; all_goals (try with_reducible rfl))
        try simp only [Act.put, List.setIfInBounds_toArray, List.set_cons_zero, List.set_cons_succ]
        refine wpAnyH_ready (rs := [8]) (by kernel_rfl) (by simp) ?_
        refine AllReadyH.cons (o := { dst := some 25, op := Op.call { callee := Callee.value (Operand.func 45), args := #[Operand.tmp 6, Operand.tmp 22, Operand.tmp 24], argTypes := #[99, 25, 3] }, type := 25, pos := "check.go:75", after := #[{ on := 5, ground := Ground.data }, { on := 7, ground := Ground.data }, { on := 4, ground := Ground.chain }], guard := none }) rfl (fun K hK => ?_) AllReadyH.nil
        go_simp
        refine Calls.mono (HTm.out _ HV3.out) ?_
        rintro e W4 ⟨rfl, hl4, hk4⟩
        have HL4 : Hid (Live W (W.heap.size + 1) W4 ((ts.take k).any (timesO l) || to) ∧ Kept (W.heap.size + 1) W3 W4) := ⟨hl4, hk4⟩
        clear hl4 hk4
        go_wp2_with fail
        refine hK.out _ _ trivial (fun hHeld => ?_)
        clear hK K
        try simp only [Act.put, List.setIfInBounds_toArray, List.set_cons_zero, List.set_cons_succ]
        refine wpAnyH_ready (rs := [9]) (by kernel_rfl) (by simp) ?_
        refine AllReadyH.cons (o := { dst := some 26, op := Op.buildSlice 100 1 #[(0, Operand.tmp 25)], type := 100, pos := "check.go:75", after := #[{ on := 8, ground := Ground.data }], guard := none }) rfl (fun K hK => ?_) AllReadyH.nil
        go_simp
        refine hK.out _ _ trivial (fun hHeld => ?_)
        clear hK K
        try simp only [Act.put, List.setIfInBounds_toArray, List.set_cons_zero, List.set_cons_succ]
        refine wpAnyH_ready (rs := [10]) (by kernel_rfl) (by simp) ?_
        refine AllReadyH.cons (o := { dst := some 27, op := Op.call { callee := Callee.builtin Builtin.append, args := #[Operand.tmp 17, Operand.tmp 26], argTypes := #[100, 100] }, type := 100, pos := "check.go:75", after := #[{ on := 0, ground := Ground.data }, { on := 9, ground := Ground.data }, { on := 8, ground := Ground.chain }], guard := none }) rfl (fun K hK => ?_) AllReadyH.nil
        obtain ⟨a9, n9, c9, Y, hr, hY⟩ := HAp.out W3 W4 HV3.out HL4.out.1 HL4.out.2
        have HY : Hid (SumInv W W2 (W.heap.size + 1) l ts (k + 1) (.slice a9 n9 c9) Y) := hY
        clear hY
        refine append_stepO (by rfl) _ _ (by rfl) (by rfl) _ _ _ _ (by rfl) (by rfl) hr ?_
        clear hr
        refine hK.out _ _ trivial (fun hHeld => ?_)
        clear hK K
        try simp only [Act.put, List.setIfInBounds_toArray, List.set_cons_zero, List.set_cons_succ]
        refine wpAnyH_take (i := 11) (oi := { dst := some 7, op := Op.assign (Operand.tmp 27), type := 100, pos := "check.go:75", after := #[{ on := 10, ground := Ground.data }, { on := 10, ground := Ground.chain }, { on := 0, ground := Ground.phase }, { on := 1, ground := Ground.phase }, { on := 2, ground := Ground.phase }, { on := 3, ground := Ground.phase }, { on := 4, ground := Ground.phase }, { on := 5, ground := Ground.phase }, { on := 6, ground := Ground.phase }, { on := 7, ground := Ground.phase }, { on := 8, ground := Ground.phase }, { on := 9, ground := Ground.phase }, { on := 10, ground := Ground.phase }], guard := none }) (v := ?_) rfl (by kernel_rfl) (by kernel_rfl) (by kernel_rfl) (fun _ _ _ h => h) (Or.inl ⟨by rfl, ?_⟩) hHeld ?_
        rotate_left
        · (intro w hSw; (try dsimp only at hSw); go_simp; all_goals (try with_reducible rfl))
        try simp only [Act.put, List.setIfInBounds_toArray, List.set_cons_zero, List.set_cons_succ]
        refine wpAnyH_done (by kernel_rfl) ?_ _
        go_wp2
        go_roundw
        case rel => exact ⟨k + 1, _, by omega, by go_num, rfl, HY.out⟩
        case measure => simp [intOf]; omega
      refine AllReadyH.cons (o := { dst := some 24, op := Op.load 3 (Operand.tmp 23), type := 3, pos := "check.go:75", after := #[{ on := 6, ground := Ground.data }], guard := none }) rfl (fun K hK => ?_) AllReadyH.nil
      go_simp
      refine hK.out _ _ trivial (fun hHeld => ?_)
      clear hK K
      try simp only [Act.put, List.setIfInBounds_toArray, List.set_cons_zero, List.set_cons_succ]
      refine wpAnyH_ready (rs := [3]) (by kernel_rfl) (by simp) ?_
      refine AllReadyH.cons (o := { dst := some 20, op := Op.load 9 (Operand.tmp 19), type := 9, pos := "check.go:75", after := #[{ on := 2, ground := Ground.data }], guard := none }) rfl (fun K hK => ?_) AllReadyH.nil
      go_simp
      refine hK.out _ _ trivial (fun hHeld => ?_)
      clear hK K
      try simp only [Act.put, List.setIfInBounds_toArray, List.set_cons_zero, List.set_cons_succ]
      refine wpAnyH_ready (rs := [4]) (by kernel_rfl) (by simp) ?_
      refine AllReadyH.cons (o := { dst := some 21, op := Op.call { callee := Callee.value (Operand.func 46), args := #[Operand.tmp 18, Operand.tmp 20], argTypes := #[28, 9] }, type := 27, pos := "check.go:75", after := #[{ on := 1, ground := Ground.data }, { on := 3, ground := Ground.data }], guard := none }) rfl (fun K hK => ?_) AllReadyH.nil
      go_simp
      refine Calls.mono (HNm.out _ HV1.out.live.below) ?_
      rintro e W3 ⟨rfl, hb3⟩
      have HV3 : Hid (SumInv W W2 (W.heap.size + 1) l ts k v0 W3) := HV1.out.stays hb3
      have q1 : W3.cell? ⟨wr.heap.size, 1, none⟩ = some (.int .i64 tt) := by rw [hb3.cell (p := ⟨wr.heap.size, 1, none⟩) (by simp)]; simp [go_sem]
      clear hb3
      go_wp2_with fail
      refine hK.out _ _ trivial (fun hHeld => ?_)
      clear hK K
      try simp only [Act.put, List.setIfInBounds_toArray, List.set_cons_zero, List.set_cons_succ]
      refine wpAnyH_take (i := 5) (oi := { dst := some 22, op := Op.field 27 (Operand.tmp 21) 2, type := 25, pos := "check.go:75", after := #[{ on := 4, ground := Ground.data }], guard := none }) (v := ?_) rfl (by kernel_rfl) (by kernel_rfl) (by kernel_rfl) (fun _ _ _ h => h) (Or.inl ⟨by rfl, ?_⟩) hHeld ?_
      rotate_left
      · (intro w hSw; (try dsimp only at hSw); go_simp; all_goals (try with_reducible rfl))
      try simp only [Act.put, List.setIfInBounds_toArray, List.set_cons_zero, List.set_cons_succ]
      refine wpAnyH_ready (rs := [8]) (by kernel_rfl) (by simp) ?_
      refine AllReadyH.cons (o := { dst := some 25, op := Op.call { callee := Callee.value (Operand.func 45), args := #[Operand.tmp 6, Operand.tmp 22, Operand.tmp 24], argTypes := #[99, 25, 3] }, type := 25, pos := "check.go:75", after := #[{ on := 5, ground := Ground.data }, { on := 7, ground := Ground.data }, { on := 4, ground := Ground.chain }], guard := none }) rfl (fun K hK => ?_) AllReadyH.nil
      go_simp
      refine Calls.mono (HTm.out _ HV3.out) ?_
      rintro e W4 ⟨rfl, hl4, hk4⟩
      have HL4 : Hid (Live W (W.heap.size + 1) W4 ((ts.take k).any (timesO l) || to) ∧ Kept (W.heap.size + 1) W3 W4) := ⟨hl4, hk4⟩
      clear hl4 hk4
      go_wp2_with fail
      refine hK.out _ _ trivial (fun hHeld => ?_)
      clear hK K
      try simp only [Act.put, List.setIfInBounds_toArray, List.set_cons_zero, List.set_cons_succ]
      refine wpAnyH_ready (rs := [9]) (by kernel_rfl) (by simp) ?_
      refine AllReadyH.cons (o := { dst := some 26, op := Op.buildSlice 100 1 #[(0, Operand.tmp 25)], type := 100, pos := "check.go:75", after := #[{ on := 8, ground := Ground.data }], guard := none }) rfl (fun K hK => ?_) AllReadyH.nil
      go_simp
      refine hK.out _ _ trivial (fun hHeld => ?_)
      clear hK K
      try simp only [Act.put, List.setIfInBounds_toArray, List.set_cons_zero, List.set_cons_succ]
      refine wpAnyH_ready (rs := [10]) (by kernel_rfl) (by simp) ?_
      refine AllReadyH.cons (o := { dst := some 27, op := Op.call { callee := Callee.builtin Builtin.append, args := #[Operand.tmp 17, Operand.tmp 26], argTypes := #[100, 100] }, type := 100, pos := "check.go:75", after := #[{ on := 0, ground := Ground.data }, { on := 9, ground := Ground.data }, { on := 8, ground := Ground.chain }], guard := none }) rfl (fun K hK => ?_) AllReadyH.nil
      obtain ⟨a9, n9, c9, Y, hr, hY⟩ := HAp.out W3 W4 HV3.out HL4.out.1 HL4.out.2
      have HY : Hid (SumInv W W2 (W.heap.size + 1) l ts (k + 1) (.slice a9 n9 c9) Y) := hY
      clear hY
      refine append_stepO (by rfl) _ _ (by rfl) (by rfl) _ _ _ _ (by rfl) (by rfl) hr ?_
      clear hr
      refine hK.out _ _ trivial (fun hHeld => ?_)
      clear hK K
      try simp only [Act.put, List.setIfInBounds_toArray, List.set_cons_zero, List.set_cons_succ]
      refine wpAnyH_take (i := 11) (oi := { dst := some 7, op := Op.assign (Operand.tmp 27), type := 100, pos := "check.go:75", after := #[{ on := 10, ground := Ground.data }, { on := 10, ground := Ground.chain }, { on := 0, ground := Ground.phase }, { on := 1, ground := Ground.phase }, { on := 2, ground := Ground.phase }, { on := 3, ground := Ground.phase }, { on := 4, ground := Ground.phase }, { on := 5, ground := Ground.phase }, { on := 6, ground := Ground.phase }, { on := 7, ground := Ground.phase }, { on := 8, ground := Ground.phase }, { on := 9, ground := Ground.phase }, { on := 10, ground := Ground.phase }], guard := none }) (v := ?_) rfl (by kernel_rfl) (by kernel_rfl) (by kernel_rfl) (fun _ _ _ h => h) (Or.inl ⟨by rfl, ?_⟩) hHeld ?_
      rotate_left
      · (intro w hSw; (try dsimp only at hSw); go_simp; all_goals (try with_reducible rfl))
      try simp only [Act.put, List.setIfInBounds_toArray, List.set_cons_zero, List.set_cons_succ]
      refine wpAnyH_done (by kernel_rfl) ?_ _
      go_wp2
      go_roundw
      case rel => exact ⟨k + 1, _, by omega, by go_num, rfl, HY.out⟩
      case measure => simp [intOf]; omega
    · have hkk : k = ts.length := by omega
      have HL : Hid (Live W (W.heap.size + 1) wr (ts.any (timesO l))) := by have := HV.out.live; rw [hkk, List.take_length] at this; exact this
      have ho : OSpan wr W2.heap.size v0 (ts.map (timesS l)) := by have := HV.out.own; rw [hkk, ← List.length_map (f := timesS l), List.take_length] at this; exact this
      obtain ⟨a, cap, rfl, hrow, hne⟩ := ho.row
      have HPl := splus_some HL.out a (ts.map (timesS l)) cap hrow (fun x hx => by have := hne x hx; have := HAW.out; omega) sums_fit (by rw [List.length_map]; omega) (sums_some HS.out HI.out)
      have HE : Hid (∀ b, sumO l ts = b → sumR l ts = if b then (0, 0, 10) else (clampF (sumLo l ts), clampF (sumHi l ts), 0)) := fun b hb => by unfold sumR; rw [hb]
      have HO : Hid ((ts.any (timesO l) || (overF (sumLo l ts) || overF (sumHi l ts))) = sumO l ts) := rfl
      have HK : Hid (Kept (W.heap.size + 1) W2 wr) := HV.out.kept
      have hlen : (ts.map (timesS l)).length = ts.length := by simp
      rw [hlen] at HPl ⊢
      clear hrow hne hkk ho hlen
      have HPl2 : Hid (Calls Try.prog 47 #[.pointer (some ⟨W.heap.size + 1, 0, none⟩), .slice a ts.length cap] wr (SpanSays W (W.heap.size + 1) (ts.any (timesO l)) wr (clampF (sumLo l ts)) (clampF (sumHi l ts)) (overF (sumLo l ts) || overF (sumHi l ts)))) := HPl
      clear HPl
      generalize clampF (sumLo l ts) = slo at *
      generalize clampF (sumHi l ts) = shi at *
      go_wp2_with fail
      refine Calls.mono HPl2.out ?_
      rintro e W5 ⟨rfl, hl5, hk5⟩
      rw [HO.out] at hl5
      have c5 := hl5.cell
      obtain ⟨r0, r1, f0, f1⟩ := HC.out W5 (HK.out.trans hk5)
      have HB5 : Hid (Below W.heap.size W W5) := hl5.below
      have hlt5 := hl5.old
      have hlt6 : W.heap.size < W5.heap.size := by omega
      clear hl5 hk5
      cases hb : sumO l ts with
      | true =>
        have HE1 := HE.out _ hb
        rw [hb] at c5
        clear hb HO
        go_wp2
        refine bodyPost_ret (v := .tuple #[.agg #[.int .i64 0, .int .i64 0], .int .i64 10]) (by simp [results, Try.results29, go_sem, cell_alloc_lt, r0, r1, hlt6]) rfl ⟨by rw [HE1]; rfl, ?_⟩
        exact (below_set (below_set HB5.out _ _ _ (Nat.le_refl _)) _ _ _ (Nat.le_refl _)).alloc (by simp; omega) _
      | false =>
        have HE1 := HE.out _ hb
        rw [hb] at c5
        clear hb HO
        go_wp2
        refine bodyPost_ret (v := .tuple #[.agg #[.int .i64 slo, .int .i64 shi], .int .i64 0]) (by simp [results, Try.results29, go_sem, cell_alloc_lt, r0, r1, hlt6]) rfl ⟨by rw [HE1]; rfl, ?_⟩
        exact (below_set (below_set HB5.out _ _ _ (Nat.le_refl _)) _ _ _ (Nat.le_refl _)).alloc (by simp; omega) _
end Go.Proofs.Ytjnnjjajlafchaa
