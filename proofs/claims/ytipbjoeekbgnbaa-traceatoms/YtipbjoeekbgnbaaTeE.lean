/- picketref7's Atom, at every sum. Conditions: at most 1000 terms, 1000 names. -/
import Derived.Test.YtipbjoeekbgnbaaTeC
import Derived.Test.YtipbjoeekbgnbaaTeD
namespace Go.Proofs.Ytipbjoeekbgnbaa
open Go.RowKit
set_option linter.unusedVariables false
set_option maxRecDepth 100000

theorem hid_of {p : Prop} (h : p) : Hid p := h
theorem intRow_below {w w' : World} {a : Option Addr} {l : List Int} (h : IntRow w a l) (k : Below w.heap.size w w') : IntRow w' a l := by
  intro i hi
  obtain ⟨b, off, e, h0⟩ := h i hi
  exact ⟨b, off, e, cell_up k h0⟩
/-- What a row says of a name: its first place's number. -/
def lookN (s : ByteArray) : List ByteArray → List Int → Int
  | [], _ => 0
  | n :: ns, vs => if eqS n s then vs.headD 0 else lookN s ns vs.tail
theorem lookN_drop (s : ByteArray) (ns : List ByteArray) (vs : List Int) (j : Nat) (hj : j < ns.length) :
    lookN s (ns.drop j) (vs.drop j) = if eqS (ns.getD j ⟨#[]⟩) s then vs.getD j 0 else lookN s (ns.drop (j + 1)) (vs.drop (j + 1)) := by
  rw [List.drop_eq_getElem_cons hj]
  simp only [lookN, List.tail_drop]
  rw [List.getD_eq_getElem?_getD, List.getElem?_eq_getElem hj]
  simp [List.headD_eq_head?_getD, List.head?_drop, List.getD_eq_getElem?_getD]
def sumA (f : ByteArray → Int) (ts : List Tm) : Int := (ts.map fun t => t.times * f t.name).sum
theorem sumA_take (f : ByteArray → Int) (ts : List Tm) (k : Nat) (hk : k < ts.length) : sumA f (ts.take (k + 1)) = sumA f (ts.take k) + (ts.getD k tm0).times * f (ts.getD k tm0).name := by
  unfold sumA
  rw [List.take_succ_eq_append_getElem hk, List.getD_eq_getElem?_getD, List.getElem?_eq_getElem hk]
  simp only [List.map_append, List.map_cons, List.map_nil, List.sum_append, List.sum_cons, List.sum_nil, Int.add_zero, Option.getD_some]
theorem mulB_bd {a b : Int} (ha : B64 a) (hb : B64 b) : -85070591730234615865843651857942052864 ≤ a * b ∧ a * b ≤ 85070591730234615865843651857942052864 := by
  obtain ⟨a1, a2⟩ := ha; obtain ⟨b1, b2⟩ := hb
  have h : (a * b).natAbs ≤ 9223372036854775808 * 9223372036854775808 := by
    rw [Int.natAbs_mul]; exact Nat.mul_le_mul (by omega) (by omega)
  omega
theorem sumA_bd (f : ByteArray → Int) (ts : List Tm) (hf : ∀ s, B64 (f s)) (ht : TimesFit ts) : -((ts.length : Int) * 85070591730234615865843651857942052864) ≤ sumA f ts ∧ sumA f ts ≤ (ts.length : Int) * 85070591730234615865843651857942052864 := by
  induction ts with
  | nil => simp [sumA]
  | cons t ts ih =>
    have h1 := ih fun x hx => ht x (by simp [hx])
    have h2 := mulB_bd (ht t (by simp)) (hf t.name)
    have h3 : sumA f (t :: ts) = t.times * f t.name + sumA f ts := by simp [sumA]
    rw [h3, List.length_cons]
    omega
structure AtomInv (W W2 : World) (A : Nat) (x : Int) (wr : World) : Prop where
  below : Below W.heap.size W wr
  kept : Kept (A + 1) W2 wr
  big : ∃ m d, BigAt wr (A + 1) m d ∧ IsBig (bigC m d) x
theorem AtomInv.stays {W W2 : World} {A : Nat} {x : Int} {wr wr' : World} (h : AtomInv W W2 A x wr) (b : Below wr.heap.size wr wr') : AtomInv W W2 A x wr' :=
  ⟨h.below.trans (b.mono h.below.size), h.kept.trans (Kept.of_below b), by obtain ⟨m, d, h1, h2⟩ := h.big; exact ⟨m, d, h1.below b, h2⟩⟩
theorem AtomInv.put {W W2 : World} {A : Nat} {x y : Int} {V : World} {m : Bool} {d : Nat → Int} (h : AtomInv W W2 A x V) (hA : W.heap.size ≤ A) (hy : IsBig (bigC m d) y) :
    AtomInv W W2 A y (((((((V.setCell ⟨A + 1, 0, none⟩ (.bool m)).setCell ⟨A + 1, 1, none⟩ (.int .i64 (d 0))).setCell ⟨A + 1, 2, none⟩ (.int .i64 (d 1))).setCell ⟨A + 1, 3, none⟩ (.int .i64 (d 2))).setCell ⟨A + 1, 4, none⟩ (.int .i64 (d 3))).setCell ⟨A + 1, 5, none⟩ (.int .i64 (d 4))).setCell ⟨A + 1, 6, none⟩ (.int .i64 (d 5))) := by
  obtain ⟨m0, d0, h1, h2⟩ := h.big
  have hl : W.heap.size ≤ A + 1 := by omega
  refine ⟨?_, ?_, ⟨m, d, bigAt_put h1 m d, hy⟩⟩
  · repeat (refine Below.setCell ?_ hl _)
    exact h.below
  exact (((((((h.kept.trans (Kept.setCell _ _ _ _)).trans (Kept.setCell _ _ _ _)).trans (Kept.setCell _ _ _ _)).trans (Kept.setCell _ _ _ _)).trans (Kept.setCell _ _ _ _)).trans (Kept.setCell _ _ _ _)).trans (Kept.setCell _ _ _ _))
set_option maxHeartbeats 8000000 in
theorem ratom_any (op nn fr to num : Int) (ta : Option Addr) (tc : Nat) (ts : List Tm) (na : Option Addr) (nc : Nat) (ns : List ByteArray) (ra : Option Addr) (rc : Nat) (vs : List Int) (W : World)
    (h : TermRow W ta ts) (hm : ts.length ≤ 1000) (ht : TimesFit ts) (hn : NamRow W na ns) (hr : IntRow W ra vs) (hnl : ns.length ≤ 1000) (hvs : ∀ s, B64 (lookN s ns vs))
    (hnum : B64 num) :
    Calls Try.prog 8 #[.agg #[.int .i64 op, .int .i64 nn, .int .i64 fr, .int .i64 to, .slice ta ts.length tc, .int .i64 num], .slice na ns.length nc, .slice ra vs.length rc] W
      fun e w' => e = .returned (.tuple #[.bool (holdsB (sumA (fun s => lookN s ns vs) ts) num), .bool (overB (sumA (fun s => lookN s ns vs) ts))]) ∧ Below W.heap.size W w' := by
  have HR : Hid (TermRow W ta ts) := h
  have HNr : Hid (NamRow W na ns) := hn
  have HIr : Hid (IntRow W ra vs) := hr
  have HT : Hid (TimesFit ts) := ht
  have HVS : Hid (∀ s, B64 (lookN s ns vs)) := hvs
  have HNum : Hid (B64 num) := hnum
  have HO : Hid (∀ c X, B64 c → Calls Try.prog 16 #[.int .i64 c] X fun e X' => ∃ v', e = .returned v' ∧ IsBig v' c ∧ Below X.heap.size X X') := fun c X a => of_big c X a.1 a.2
  have HM : Hid (∀ u z c d X, IsBig u c → IsBig z d → B64 c → B64 d → Calls Try.prog 15 #[u, z] X fun e X' => ∃ v', e = .returned v' ∧ IsBig v' (c * d) ∧ Below X.heap.size X X') := fun u z c d X a b h1 h2 => rmul_big u z c d X a b (by have := h1.1; omega) (by have := h1.2; omega) (by have := h2.1; omega) (by have := h2.2; omega)
  have HBd : Hid (∀ k, k ≤ ts.length → -85070591730234615865843651857942052864000 ≤ sumA (fun s => lookN s ns vs) (ts.take k) ∧ sumA (fun s => lookN s ns vs) (ts.take k) ≤ 85070591730234615865843651857942052864000) := by
    intro k hk
    have := sumA_bd (fun s => lookN s ns vs) (ts.take k) hvs (fun x hx => ht x (List.mem_of_mem_take hx))
    rw [List.length_take] at this
    omega
  have HJ : Hid (∀ v X, IsBig v (sumA (fun s => lookN s ns vs) ts) → Calls Try.prog 17 #[v, .int .i64 num] X fun e w' => e = .returned (.tuple #[.bool (holdsB (sumA (fun s => lookN s ns vs) ts) num), .bool (overB (sumA (fun s => lookN s ns vs) ts))]) ∧ Below X.heap.size X w') := fun v X hv => by
    have := sumA_bd (fun s => lookN s ns vs) ts hvs ht
    exact rjudge_any v _ num X hv (by omega) (by omega) hnum
  have HTk : Hid (∀ k, k < ts.length → sumA (fun s => lookN s ns vs) (ts.take (k + 1)) = sumA (fun s => lookN s ns vs) (ts.take k) + (ts.getD k tm0).times * lookN (ts.getD k tm0).name ns vs) := fun k hk => sumA_take _ ts k hk
  obtain ⟨W2, hW2⟩ : ∃ Z, (W.alloc (.cells #[.int .i64 op, .int .i64 nn, .int .i64 fr, .int .i64 to, .slice ta ts.length tc, .int .i64 num] 24)).alloc (.cells #[.bool false, .int .i64 0, .int .i64 0, .int .i64 0, .int .i64 0, .int .i64 0, .int .i64 0] 52) = Z := ⟨_, rfl⟩
  have s2 : W2.heap.size = W.heap.size + 2 := by rw [← hW2]; simp
  have HI0 : Hid (AtomInv W W2 W.heap.size (sumA (fun s => lookN s ns vs) (ts.take 0)) ((W.alloc (.cells #[.int .i64 op, .int .i64 nn, .int .i64 fr, .int .i64 to, .slice ta ts.length tc, .int .i64 num] 24)).alloc (.cells #[.bool false, .int .i64 0, .int .i64 0, .int .i64 0, .int .i64 0, .int .i64 0, .int .i64 0] 52))) := by
    refine ⟨((Below.refl _ _).alloc (Nat.le_refl _) _).alloc (by simp) _, by rw [hW2]; exact Kept.refl _ _, false, fun _ => 0, bigAt_of (by simp [go_sem]) (by simp [go_sem]) (by simp [go_sem]) (by simp [go_sem]) (by simp [go_sem]) (by simp [go_sem]) (by simp [go_sem]) (fun j => by simp [go_sem]), false, fun _ => 0, rfl, fun i _ => ⟨by simp, by simp⟩, by simp [sumA, sv, valD], fun h => by cases h⟩
  have HC : Hid (∀ X, Kept (W.heap.size + 1) W2 X → X.cell? ⟨W.heap.size, 4, none⟩ = some (.slice ta ts.length tc) ∧ X.cell? ⟨W.heap.size, 5, none⟩ = some (.int .i64 num)) := by
    intro X hX
    have e0 : W2.cell? ⟨W.heap.size, 4, none⟩ = some (.slice ta ts.length tc) := by rw [← hW2]; simp [go_sem]
    have e1 : W2.cell? ⟨W.heap.size, 5, none⟩ = some (.int .i64 num) := by rw [← hW2]; simp [go_sem]
    exact ⟨hX.cell e0 (by omega), hX.cell e1 (by omega)⟩
  clear h hn hr ht hvs hnum hW2 s2
  go_enter Try.func8, Try.ntmps8
  go_wp2
  go_loopw [9, 10, 11] (fun i v kk wr => ∃ k : Nat, k ≤ ts.length ∧ i = .int .i64 k ∧ AtomInv W W2 W.heap.size (sumA (fun s => lookN s ns vs) (ts.take k)) wr) (fun i _ _ _ => ts.length - (intOf i).toNat)
  case atStart => exact ⟨0, Nat.zero_le _, rfl, HI0.out⟩
  case round =>
    obtain ⟨k, hk, rfl, hi⟩ := hrel
    have HV : Hid (AtomInv W W2 W.heap.size (sumA (fun s => lookN s ns vs) (ts.take k)) wr) := hi
    clear hi
    obtain ⟨c4, c5⟩ := HC.out _ HV.out.kept
    by_cases hlt : k < ts.length
    · obtain ⟨b, off, rfl, h0, h1⟩ := HR.out k hlt
      have htt : B64 (ts.getD k tm0).times := HT.out _ (by rw [List.getD_eq_getElem?_getD, List.getElem?_eq_getElem hlt]; exact List.getElem_mem hlt)
      have HTT : Hid (B64 (ts.getD k tm0).times) := htt
      have HSum : Hid (sumA (fun s => lookN s ns vs) (ts.take (k + 1)) = sumA (fun s => lookN s ns vs) (ts.take k) + (ts.getD k tm0).times * lookN (ts.getD k tm0).name ns vs) := HTk.out k hlt
      have HLt : Hid (k < ts.length) := hlt
      have HT0 : Hid (∀ X, Below W.heap.size W X → X.cell? ⟨b, off + k * 2, none⟩ = some (.string (ts.getD k tm0).name) ∧ X.cell? ⟨b, off + k * 2 + 1, none⟩ = some (.int .i64 (ts.getD k tm0).times)) := fun X hX => ⟨cell_up hX h0, cell_up hX h1⟩
      clear htt h0 h1
      generalize (ts.getD k tm0).name = tn at *
      generalize (ts.getD k tm0).times = tt at *
      go_wp2
      clear c4 c5
      go_loopw [10, 11] (fun v kk X => AtomInv W W2 W.heap.size (sumA (fun s => lookN s ns vs) (ts.take k)) X ∧ ((kk = .int .i64 (-1) ∧ v = .int .i64 (lookN tn ns vs)) ∨ ∃ j : Nat, j < ns.length ∧ kk = .int .i64 j ∧ v = .int .i64 (lookN tn (ns.drop (j + 1)) (vs.drop (j + 1))))) (fun _ kk _ => (intOf kk + 1).toNat)
      case atStart =>
        refine ⟨HV.out, ?_⟩
        rcases Nat.eq_zero_or_pos ns.length with e0 | e0
        · left
          have en : ns = [] := List.eq_nil_of_length_eq_zero e0
          refine ⟨by rw [e0]; rfl, by rw [en]; rfl⟩
        · right
          refine ⟨ns.length - 1, by omega, ?_, ?_⟩
          · congr 1; omega
          · rw [List.drop_of_length_le (by omega)]; rfl
      case round =>
        obtain ⟨hi, hrel⟩ := hrel
        rename World => X
        have HV : Hid (AtomInv W W2 W.heap.size (sumA (fun s => lookN s ns vs) (ts.take k)) X) := hi
        clear hi
        obtain ⟨c4, c5⟩ := HC.out _ HV.out.kept
        obtain ⟨h0, h1⟩ := HT0.out _ HV.out.below
        rcases hrel with ⟨rfl, rfl⟩ | ⟨j, hj, rfl, rfl⟩
        · have HLv : Hid (B64 (lookN tn ns vs)) := HVS.out tn
          generalize lookN tn ns vs = lv at *
          obtain ⟨m, d, hb1, hb2⟩ := HV.out.big
          have HBd2 := HBd.out k hk
          have HAdd : Hid (∀ v' Y, IsBig v' (tt * lv) → Calls Try.prog 14 #[.agg #[.bool m, .int .i64 (d 0), .int .i64 (d 1), .int .i64 (d 2), .int .i64 (d 3), .int .i64 (d 4), .int .i64 (d 5)], v'] Y fun e Y' => ∃ v'', e = .returned v'' ∧ IsBig v'' (sumA (fun s => lookN s ns vs) (ts.take k) + tt * lv) ∧ Below Y.heap.size Y Y') := by
            intro v' Y hv'
            have := mulB_bd HTT.out HLv.out
            exact radd_big _ v' _ _ Y hb2 hv' (by omega) (by omega) (by omega) (by omega)
          clear HBd2 hb2
          have HCl : Hid (∀ Y, Below X.heap.size X Y → Y.cell? ⟨W.heap.size + 1, 0, none⟩ = some (.bool m) ∧ Y.cell? ⟨W.heap.size + 1, 1, none⟩ = some (.int .i64 (d 0)) ∧ Y.cell? ⟨W.heap.size + 1, 2, none⟩ = some (.int .i64 (d 1)) ∧ Y.cell? ⟨W.heap.size + 1, 3, none⟩ = some (.int .i64 (d 2)) ∧ Y.cell? ⟨W.heap.size + 1, 4, none⟩ = some (.int .i64 (d 3)) ∧ Y.cell? ⟨W.heap.size + 1, 5, none⟩ = some (.int .i64 (d 4)) ∧ Y.cell? ⟨W.heap.size + 1, 6, none⟩ = some (.int .i64 (d 5)) ∧ ∀ j, Y.frozen? ⟨W.heap.size + 1, j, none⟩ = false) := by
            intro Y hY
            have B3 := hb1.below hY
            exact ⟨B3.s, B3.c 0 (by omega), B3.c 1 (by omega), B3.c 2 (by omega), B3.c 3 (by omega), B3.c 4 (by omega), B3.c 5 (by omega), B3.f⟩
          have HSx : Hid (∀ x Y, AtomInv W W2 W.heap.size x Y → Y.cell? ⟨W.heap.size, 4, none⟩ = some (.slice (some ⟨b, off, none⟩) ts.length tc) ∧ Y.cell? ⟨b, off + k * 2 + 1, none⟩ = some (.int .i64 tt)) := fun x Y hY => ⟨(HC.out _ hY.kept).1, (HT0.out _ hY.below).2⟩
          clear hb1 c4 c5 h0 h1
          go_wp2
          have HB : Hid (Below X.heap.size X X.drew) := (Below.refl _ _).drew
          obtain ⟨s0, s1, s2, s3, s4, s5, s6, sf⟩ := HCl.out _ HB.out
          have HV : Hid (AtomInv W W2 W.heap.size (sumA (fun s => lookN s ns vs) (ts.take k)) X.drew) := HV.out.stays HB.out
          refine wp_region_held_drew (S := fun Y => Y.cell? ⟨W.heap.size, 4, none⟩ = some (.slice (some ⟨b, off, none⟩) ts.length tc) ∧ Y.cell? ⟨b, off + k * 2 + 1, none⟩ = some (.int .i64 tt)) (by kernel_rfl) (HSx.out _ _ HV.out) (fun hHeld => ?_)
          refine wpAnyH_take (i := 1) (oi := { dst := some 46, op := Op.fieldAddr 24 (Operand.tmp 3) 4, type := 0, pos := "kinds.go:312", after := #[], guard := none }) (v := ?_) rfl (by kernel_rfl) (by kernel_rfl) (by kernel_rfl) (fun _ _ _ h => h) (Or.inl ⟨by rfl, ?_⟩) hHeld ?_
          rotate_left
          · (intro w hSw; (try dsimp only at hSw); go_simp; all_goals (try with_reducible rfl))
          try simp only [Act.put, List.setIfInBounds_toArray, List.set_cons_zero, List.set_cons_succ]
          refine wpAnyH_take (i := 2) (oi := { dst := some 47, op := Op.load 22 (Operand.tmp 46), type := 22, pos := "kinds.go:312", after := #[{ on := 1, ground := Ground.data }], guard := none }) (v := ?_) rfl (by kernel_rfl) (by kernel_rfl) (by kernel_rfl) (fun _ _ _ h => h) (Or.inl ⟨by rfl, ?_⟩) hHeld ?_
          rotate_left
          · (intro w hSw; (try dsimp only at hSw); go_simp; all_goals (try with_reducible rfl))
          try simp only [Act.put, List.setIfInBounds_toArray, List.set_cons_zero, List.set_cons_succ]
          refine wpAnyH_take (i := 3) (oi := { dst := some 48, op := Op.move (Operand.tmp 9), type := 3, pos := "kinds.go:312", after := #[], guard := none }) (v := ?_) rfl (by kernel_rfl) (by kernel_rfl) (by kernel_rfl) (fun _ _ _ h => h) (Or.inl ⟨by rfl, ?_⟩) hHeld ?_
          rotate_left
          · (intro w hSw; (try dsimp only at hSw); go_simp; all_goals (try with_reducible rfl))
          try simp only [Act.put, List.setIfInBounds_toArray, List.set_cons_zero, List.set_cons_succ]
          refine wpAnyH_take (i := 4) (oi := { dst := some 49, op := Op.indexAddr 22 (Operand.tmp 47) (Operand.tmp 48), type := 0, pos := "kinds.go:312", after := #[{ on := 2, ground := Ground.data }, { on := 3, ground := Ground.data }], guard := none }) (v := ?_) rfl (by kernel_rfl) (by kernel_rfl) (by kernel_rfl) (fun _ _ _ h => h) (Or.inl ⟨by rfl, ?_⟩) hHeld ?_
          rotate_left
          · (intro w hSw; (try dsimp only at hSw); go_simp; all_goals (try with_reducible rfl))
          try simp only [Act.put, List.setIfInBounds_toArray, List.set_cons_zero, List.set_cons_succ]
          refine wpAnyH_take (i := 5) (oi := { dst := some 50, op := Op.fieldAddr 36 (Operand.tmp 49) 1, type := 0, pos := "kinds.go:312", after := #[{ on := 4, ground := Ground.data }], guard := none }) (v := ?_) rfl (by kernel_rfl) (by kernel_rfl) (by kernel_rfl) (fun _ _ _ h => h) (Or.inl ⟨by rfl, ?_⟩) hHeld ?_
          rotate_left
          · (intro w hSw; (try dsimp only at hSw); go_simp; all_goals (try with_reducible rfl))
          try simp only [Act.put, List.setIfInBounds_toArray, List.set_cons_zero, List.set_cons_succ]
          refine wpAnyH_take (i := 6) (oi := { dst := some 51, op := Op.load 3 (Operand.tmp 50), type := 3, pos := "kinds.go:312", after := #[{ on := 5, ground := Ground.data }], guard := none }) (v := ?_) rfl (by kernel_rfl) (by kernel_rfl) (by kernel_rfl) (fun _ _ _ h => h) (Or.inl ⟨by rfl, ?_⟩) hHeld ?_
          rotate_left
          · (intro w hSw; (try dsimp only at hSw); go_simp; all_goals (try with_reducible rfl))
          try simp only [Act.put, List.setIfInBounds_toArray, List.set_cons_zero, List.set_cons_succ]
          refine wpAnyH_take (i := 8) (oi := { dst := some 53, op := Op.move (Operand.tmp 10), type := 3, pos := "kinds.go:312", after := #[], guard := none }) (v := ?_) rfl (by kernel_rfl) (by kernel_rfl) (by kernel_rfl) (fun _ _ _ h => h) (Or.inl ⟨by rfl, ?_⟩) hHeld ?_
          rotate_left
          · (intro w hSw; (try dsimp only at hSw); go_simp; all_goals (try with_reducible rfl))
          try simp only [Act.put, List.setIfInBounds_toArray, List.set_cons_zero, List.set_cons_succ]
          refine wpAnyH_ready (rs := [0, 7]) (by kernel_rfl) (by simp) ?_
          refine AllReadyH.cons (o := { dst := some 45, op := Op.load 52 (Operand.tmp 8), type := 52, pos := "kinds.go:312", after := #[], guard := none }) rfl (fun K hK => ?_) ?_
          · skip
            go_simp
            refine hK.out _ _ (HSx.out _ _ HV.out) (fun hHeld => ?_)
            clear hK K
            try simp only [Act.put, List.setIfInBounds_toArray, List.set_cons_zero, List.set_cons_succ]
            refine wpAnyH_ready (rs := [7]) (by kernel_rfl) (by simp) ?_
            refine AllReadyH.cons (o := { dst := some 52, op := Op.call { callee := Callee.value (Operand.func 16), args := #[Operand.tmp 51], argTypes := #[3] }, type := 52, pos := "kinds.go:312", after := #[{ on := 6, ground := Ground.data }], guard := none }) rfl (fun K hK => ?_) AllReadyH.nil
            go_simp
            refine Calls.mono (HO.out _ _ HTT.out) ?_
            rintro e V1 ⟨v1, rfl, hv1, hb⟩
            have HV1 : Hid (IsBig v1 tt) := hv1
            have HV : Hid (AtomInv W W2 W.heap.size (sumA (fun s => lookN s ns vs) (ts.take k)) V1) := HV.out.stays hb
            have HB : Hid (Below X.heap.size X V1) := HB.out.trans (hb.mono HB.out.size)
            clear hb hv1 s0 s1 s2 s3 s4 s5 s6 sf
            obtain ⟨s0, s1, s2, s3, s4, s5, s6, sf⟩ := HCl.out _ HB.out
            go_wp2_with fail
            refine hK.out _ _ (HSx.out _ _ HV.out) (fun hHeld => ?_)
            clear hK K
            try simp only [Act.put, List.setIfInBounds_toArray, List.set_cons_zero, List.set_cons_succ]
            refine wpAnyH_ready (rs := [9]) (by kernel_rfl) (by simp) ?_
            refine AllReadyH.cons (o := { dst := some 54, op := Op.call { callee := Callee.value (Operand.func 16), args := #[Operand.tmp 53], argTypes := #[3] }, type := 52, pos := "kinds.go:312", after := #[{ on := 8, ground := Ground.data }, { on := 7, ground := Ground.chain }], guard := none }) rfl (fun K hK => ?_) AllReadyH.nil
            go_simp
            refine Calls.mono (HO.out _ _ HLv.out) ?_
            rintro e V2 ⟨v2, rfl, hv1, hb⟩
            have HV2 : Hid (IsBig v2 lv) := hv1
            have HV : Hid (AtomInv W W2 W.heap.size (sumA (fun s => lookN s ns vs) (ts.take k)) V2) := HV.out.stays hb
            have HB : Hid (Below X.heap.size X V2) := HB.out.trans (hb.mono HB.out.size)
            clear hb hv1 s0 s1 s2 s3 s4 s5 s6 sf
            obtain ⟨s0, s1, s2, s3, s4, s5, s6, sf⟩ := HCl.out _ HB.out
            go_wp2_with fail
            refine hK.out _ _ (HSx.out _ _ HV.out) (fun hHeld => ?_)
            clear hK K
            try simp only [Act.put, List.setIfInBounds_toArray, List.set_cons_zero, List.set_cons_succ]
            refine wpAnyH_ready (rs := [10]) (by kernel_rfl) (by simp) ?_
            refine AllReadyH.cons (o := { dst := some 55, op := Op.call { callee := Callee.value (Operand.func 15), args := #[Operand.tmp 52, Operand.tmp 54], argTypes := #[52, 52] }, type := 52, pos := "kinds.go:312", after := #[{ on := 7, ground := Ground.data }, { on := 9, ground := Ground.data }, { on := 9, ground := Ground.chain }], guard := none }) rfl (fun K hK => ?_) AllReadyH.nil
            go_simp
            refine Calls.mono (HM.out _ _ _ _ _ HV1.out HV2.out HTT.out HLv.out) ?_
            rintro e V3 ⟨v3, rfl, hv1, hb⟩
            have HV3 : Hid (IsBig v3 (tt * lv)) := hv1
            have HV : Hid (AtomInv W W2 W.heap.size (sumA (fun s => lookN s ns vs) (ts.take k)) V3) := HV.out.stays hb
            have HB : Hid (Below X.heap.size X V3) := HB.out.trans (hb.mono HB.out.size)
            clear hb hv1 s0 s1 s2 s3 s4 s5 s6 sf
            obtain ⟨s0, s1, s2, s3, s4, s5, s6, sf⟩ := HCl.out _ HB.out
            go_wp2_with fail
            refine hK.out _ _ (HSx.out _ _ HV.out) (fun hHeld => ?_)
            clear hK K
            try simp only [Act.put, List.setIfInBounds_toArray, List.set_cons_zero, List.set_cons_succ]
            refine wpAnyH_ready (rs := [11]) (by kernel_rfl) (by simp) ?_
            refine AllReadyH.cons (o := { dst := some 56, op := Op.call { callee := Callee.value (Operand.func 14), args := #[Operand.tmp 45, Operand.tmp 55], argTypes := #[52, 52] }, type := 52, pos := "kinds.go:312", after := #[{ on := 0, ground := Ground.data }, { on := 10, ground := Ground.data }, { on := 10, ground := Ground.chain }], guard := none }) rfl (fun K hK => ?_) AllReadyH.nil
            go_simp
            refine Calls.mono (HAdd.out _ _ HV3.out) ?_
            rintro e V4 ⟨v4, rfl, ⟨m', d', rfl, hd1, hd2, hd3⟩, hb⟩
            have HV4 : Hid (IsBig (bigC m' d') (sumA (fun s => lookN s ns vs) (ts.take k) + tt * lv)) := ⟨m', d', rfl, hd1, hd2, hd3⟩
            have HV : Hid (AtomInv W W2 W.heap.size (sumA (fun s => lookN s ns vs) (ts.take k)) V4) := HV.out.stays hb
            have HB : Hid (Below X.heap.size X V4) := HB.out.trans (hb.mono HB.out.size)
            clear hb hd1 hd2 hd3 s0 s1 s2 s3 s4 s5 s6 sf
            obtain ⟨s0, s1, s2, s3, s4, s5, s6, sf⟩ := HCl.out _ HB.out
            go_wp2_with fail
            refine hK.out _ _ (HSx.out _ _ HV.out) (fun hHeld => ?_)
            clear hK K
            try simp only [Act.put, List.setIfInBounds_toArray, List.set_cons_zero, List.set_cons_succ]
            refine wpAnyH_ready (rs := [12]) (by kernel_rfl) (by simp) ?_
            refine AllReadyH.cons (o := { dst := none, op := Op.store 52 (Operand.tmp 8) (Operand.tmp 56), type := 0, pos := "kinds.go:312", after := #[{ on := 11, ground := Ground.data }, { on := 11, ground := Ground.chain }, { on := 0, ground := Ground.phase }, { on := 1, ground := Ground.phase }, { on := 2, ground := Ground.phase }, { on := 3, ground := Ground.phase }, { on := 4, ground := Ground.phase }, { on := 5, ground := Ground.phase }, { on := 6, ground := Ground.phase }, { on := 7, ground := Ground.phase }, { on := 8, ground := Ground.phase }, { on := 9, ground := Ground.phase }, { on := 10, ground := Ground.phase }, { on := 11, ground := Ground.phase }], guard := none }) rfl (fun K hK => ?_) AllReadyH.nil
            go_simp
            have HV := hid_of (HV.out.put (Nat.le_refl _) HV4.out)
            refine hK.out _ _ (HSx.out _ _ HV.out) (fun hHeld => ?_)
            clear hK K
            try simp only [Act.put]
            refine wpAnyH_done (by kernel_rfl) ?_ _
            go_wp2
            go_roundw
            case rel => exact ⟨k + 1, by have := HLt.out; omega, by go_num, by rw [HSum.out]; exact HV.out⟩
            case measure => have := HLt.out; simp [intOf]; omega
          refine AllReadyH.cons (o := { dst := some 52, op := Op.call { callee := Callee.value (Operand.func 16), args := #[Operand.tmp 51], argTypes := #[3] }, type := 52, pos := "kinds.go:312", after := #[{ on := 6, ground := Ground.data }], guard := none }) rfl (fun K hK => ?_) AllReadyH.nil
          go_simp
          refine Calls.mono (HO.out _ _ HTT.out) ?_
          rintro e V1 ⟨v1, rfl, hv1, hb⟩
          have HV1 : Hid (IsBig v1 tt) := hv1
          have HV : Hid (AtomInv W W2 W.heap.size (sumA (fun s => lookN s ns vs) (ts.take k)) V1) := HV.out.stays hb
          have HB : Hid (Below X.heap.size X V1) := HB.out.trans (hb.mono HB.out.size)
          clear hb hv1 s0 s1 s2 s3 s4 s5 s6 sf
          obtain ⟨s0, s1, s2, s3, s4, s5, s6, sf⟩ := HCl.out _ HB.out
          go_wp2_with fail
          refine hK.out _ _ (HSx.out _ _ HV.out) (fun hHeld => ?_)
          clear hK K
          try simp only [Act.put, List.setIfInBounds_toArray, List.set_cons_zero, List.set_cons_succ]
          refine wpAnyH_ready (rs := [0, 9]) (by kernel_rfl) (by simp) ?_
          refine AllReadyH.cons (o := { dst := some 45, op := Op.load 52 (Operand.tmp 8), type := 52, pos := "kinds.go:312", after := #[], guard := none }) rfl (fun K hK => ?_) ?_
          · skip
            go_simp
            refine hK.out _ _ (HSx.out _ _ HV.out) (fun hHeld => ?_)
            clear hK K
            try simp only [Act.put, List.setIfInBounds_toArray, List.set_cons_zero, List.set_cons_succ]
            refine wpAnyH_ready (rs := [9]) (by kernel_rfl) (by simp) ?_
            refine AllReadyH.cons (o := { dst := some 54, op := Op.call { callee := Callee.value (Operand.func 16), args := #[Operand.tmp 53], argTypes := #[3] }, type := 52, pos := "kinds.go:312", after := #[{ on := 8, ground := Ground.data }, { on := 7, ground := Ground.chain }], guard := none }) rfl (fun K hK => ?_) AllReadyH.nil
            go_simp
            refine Calls.mono (HO.out _ _ HLv.out) ?_
            rintro e V2 ⟨v2, rfl, hv1, hb⟩
            have HV2 : Hid (IsBig v2 lv) := hv1
            have HV : Hid (AtomInv W W2 W.heap.size (sumA (fun s => lookN s ns vs) (ts.take k)) V2) := HV.out.stays hb
            have HB : Hid (Below X.heap.size X V2) := HB.out.trans (hb.mono HB.out.size)
            clear hb hv1 s0 s1 s2 s3 s4 s5 s6 sf
            obtain ⟨s0, s1, s2, s3, s4, s5, s6, sf⟩ := HCl.out _ HB.out
            go_wp2_with fail
            refine hK.out _ _ (HSx.out _ _ HV.out) (fun hHeld => ?_)
            clear hK K
            try simp only [Act.put, List.setIfInBounds_toArray, List.set_cons_zero, List.set_cons_succ]
            refine wpAnyH_ready (rs := [10]) (by kernel_rfl) (by simp) ?_
            refine AllReadyH.cons (o := { dst := some 55, op := Op.call { callee := Callee.value (Operand.func 15), args := #[Operand.tmp 52, Operand.tmp 54], argTypes := #[52, 52] }, type := 52, pos := "kinds.go:312", after := #[{ on := 7, ground := Ground.data }, { on := 9, ground := Ground.data }, { on := 9, ground := Ground.chain }], guard := none }) rfl (fun K hK => ?_) AllReadyH.nil
            go_simp
            refine Calls.mono (HM.out _ _ _ _ _ HV1.out HV2.out HTT.out HLv.out) ?_
            rintro e V3 ⟨v3, rfl, hv1, hb⟩
            have HV3 : Hid (IsBig v3 (tt * lv)) := hv1
            have HV : Hid (AtomInv W W2 W.heap.size (sumA (fun s => lookN s ns vs) (ts.take k)) V3) := HV.out.stays hb
            have HB : Hid (Below X.heap.size X V3) := HB.out.trans (hb.mono HB.out.size)
            clear hb hv1 s0 s1 s2 s3 s4 s5 s6 sf
            obtain ⟨s0, s1, s2, s3, s4, s5, s6, sf⟩ := HCl.out _ HB.out
            go_wp2_with fail
            refine hK.out _ _ (HSx.out _ _ HV.out) (fun hHeld => ?_)
            clear hK K
            try simp only [Act.put, List.setIfInBounds_toArray, List.set_cons_zero, List.set_cons_succ]
            refine wpAnyH_ready (rs := [11]) (by kernel_rfl) (by simp) ?_
            refine AllReadyH.cons (o := { dst := some 56, op := Op.call { callee := Callee.value (Operand.func 14), args := #[Operand.tmp 45, Operand.tmp 55], argTypes := #[52, 52] }, type := 52, pos := "kinds.go:312", after := #[{ on := 0, ground := Ground.data }, { on := 10, ground := Ground.data }, { on := 10, ground := Ground.chain }], guard := none }) rfl (fun K hK => ?_) AllReadyH.nil
            go_simp
            refine Calls.mono (HAdd.out _ _ HV3.out) ?_
            rintro e V4 ⟨v4, rfl, ⟨m', d', rfl, hd1, hd2, hd3⟩, hb⟩
            have HV4 : Hid (IsBig (bigC m' d') (sumA (fun s => lookN s ns vs) (ts.take k) + tt * lv)) := ⟨m', d', rfl, hd1, hd2, hd3⟩
            have HV : Hid (AtomInv W W2 W.heap.size (sumA (fun s => lookN s ns vs) (ts.take k)) V4) := HV.out.stays hb
            have HB : Hid (Below X.heap.size X V4) := HB.out.trans (hb.mono HB.out.size)
            clear hb hd1 hd2 hd3 s0 s1 s2 s3 s4 s5 s6 sf
            obtain ⟨s0, s1, s2, s3, s4, s5, s6, sf⟩ := HCl.out _ HB.out
            go_wp2_with fail
            refine hK.out _ _ (HSx.out _ _ HV.out) (fun hHeld => ?_)
            clear hK K
            try simp only [Act.put, List.setIfInBounds_toArray, List.set_cons_zero, List.set_cons_succ]
            refine wpAnyH_ready (rs := [12]) (by kernel_rfl) (by simp) ?_
            refine AllReadyH.cons (o := { dst := none, op := Op.store 52 (Operand.tmp 8) (Operand.tmp 56), type := 0, pos := "kinds.go:312", after := #[{ on := 11, ground := Ground.data }, { on := 11, ground := Ground.chain }, { on := 0, ground := Ground.phase }, { on := 1, ground := Ground.phase }, { on := 2, ground := Ground.phase }, { on := 3, ground := Ground.phase }, { on := 4, ground := Ground.phase }, { on := 5, ground := Ground.phase }, { on := 6, ground := Ground.phase }, { on := 7, ground := Ground.phase }, { on := 8, ground := Ground.phase }, { on := 9, ground := Ground.phase }, { on := 10, ground := Ground.phase }, { on := 11, ground := Ground.phase }], guard := none }) rfl (fun K hK => ?_) AllReadyH.nil
            go_simp
            have HV := hid_of (HV.out.put (Nat.le_refl _) HV4.out)
            refine hK.out _ _ (HSx.out _ _ HV.out) (fun hHeld => ?_)
            clear hK K
            try simp only [Act.put]
            refine wpAnyH_done (by kernel_rfl) ?_ _
            go_wp2
            go_roundw
            case rel => exact ⟨k + 1, by have := HLt.out; omega, by go_num, by rw [HSum.out]; exact HV.out⟩
            case measure => have := HLt.out; simp [intOf]; omega
          refine AllReadyH.cons (o := { dst := some 54, op := Op.call { callee := Callee.value (Operand.func 16), args := #[Operand.tmp 53], argTypes := #[3] }, type := 52, pos := "kinds.go:312", after := #[{ on := 8, ground := Ground.data }, { on := 7, ground := Ground.chain }], guard := none }) rfl (fun K hK => ?_) AllReadyH.nil
          go_simp
          refine Calls.mono (HO.out _ _ HLv.out) ?_
          rintro e V2 ⟨v2, rfl, hv1, hb⟩
          have HV2 : Hid (IsBig v2 lv) := hv1
          have HV : Hid (AtomInv W W2 W.heap.size (sumA (fun s => lookN s ns vs) (ts.take k)) V2) := HV.out.stays hb
          have HB : Hid (Below X.heap.size X V2) := HB.out.trans (hb.mono HB.out.size)
          clear hb hv1 s0 s1 s2 s3 s4 s5 s6 sf
          obtain ⟨s0, s1, s2, s3, s4, s5, s6, sf⟩ := HCl.out _ HB.out
          go_wp2_with fail
          refine hK.out _ _ (HSx.out _ _ HV.out) (fun hHeld => ?_)
          clear hK K
          try simp only [Act.put, List.setIfInBounds_toArray, List.set_cons_zero, List.set_cons_succ]
          refine wpAnyH_ready (rs := [0, 10]) (by kernel_rfl) (by simp) ?_
          refine AllReadyH.cons (o := { dst := some 45, op := Op.load 52 (Operand.tmp 8), type := 52, pos := "kinds.go:312", after := #[], guard := none }) rfl (fun K hK => ?_) ?_
          · skip
            go_simp
            refine hK.out _ _ (HSx.out _ _ HV.out) (fun hHeld => ?_)
            clear hK K
            try simp only [Act.put, List.setIfInBounds_toArray, List.set_cons_zero, List.set_cons_succ]
            refine wpAnyH_ready (rs := [10]) (by kernel_rfl) (by simp) ?_
            refine AllReadyH.cons (o := { dst := some 55, op := Op.call { callee := Callee.value (Operand.func 15), args := #[Operand.tmp 52, Operand.tmp 54], argTypes := #[52, 52] }, type := 52, pos := "kinds.go:312", after := #[{ on := 7, ground := Ground.data }, { on := 9, ground := Ground.data }, { on := 9, ground := Ground.chain }], guard := none }) rfl (fun K hK => ?_) AllReadyH.nil
            go_simp
            refine Calls.mono (HM.out _ _ _ _ _ HV1.out HV2.out HTT.out HLv.out) ?_
            rintro e V3 ⟨v3, rfl, hv1, hb⟩
            have HV3 : Hid (IsBig v3 (tt * lv)) := hv1
            have HV : Hid (AtomInv W W2 W.heap.size (sumA (fun s => lookN s ns vs) (ts.take k)) V3) := HV.out.stays hb
            have HB : Hid (Below X.heap.size X V3) := HB.out.trans (hb.mono HB.out.size)
            clear hb hv1 s0 s1 s2 s3 s4 s5 s6 sf
            obtain ⟨s0, s1, s2, s3, s4, s5, s6, sf⟩ := HCl.out _ HB.out
            go_wp2_with fail
            refine hK.out _ _ (HSx.out _ _ HV.out) (fun hHeld => ?_)
            clear hK K
            try simp only [Act.put, List.setIfInBounds_toArray, List.set_cons_zero, List.set_cons_succ]
            refine wpAnyH_ready (rs := [11]) (by kernel_rfl) (by simp) ?_
            refine AllReadyH.cons (o := { dst := some 56, op := Op.call { callee := Callee.value (Operand.func 14), args := #[Operand.tmp 45, Operand.tmp 55], argTypes := #[52, 52] }, type := 52, pos := "kinds.go:312", after := #[{ on := 0, ground := Ground.data }, { on := 10, ground := Ground.data }, { on := 10, ground := Ground.chain }], guard := none }) rfl (fun K hK => ?_) AllReadyH.nil
            go_simp
            refine Calls.mono (HAdd.out _ _ HV3.out) ?_
            rintro e V4 ⟨v4, rfl, ⟨m', d', rfl, hd1, hd2, hd3⟩, hb⟩
            have HV4 : Hid (IsBig (bigC m' d') (sumA (fun s => lookN s ns vs) (ts.take k) + tt * lv)) := ⟨m', d', rfl, hd1, hd2, hd3⟩
            have HV : Hid (AtomInv W W2 W.heap.size (sumA (fun s => lookN s ns vs) (ts.take k)) V4) := HV.out.stays hb
            have HB : Hid (Below X.heap.size X V4) := HB.out.trans (hb.mono HB.out.size)
            clear hb hd1 hd2 hd3 s0 s1 s2 s3 s4 s5 s6 sf
            obtain ⟨s0, s1, s2, s3, s4, s5, s6, sf⟩ := HCl.out _ HB.out
            go_wp2_with fail
            refine hK.out _ _ (HSx.out _ _ HV.out) (fun hHeld => ?_)
            clear hK K
            try simp only [Act.put, List.setIfInBounds_toArray, List.set_cons_zero, List.set_cons_succ]
            refine wpAnyH_ready (rs := [12]) (by kernel_rfl) (by simp) ?_
            refine AllReadyH.cons (o := { dst := none, op := Op.store 52 (Operand.tmp 8) (Operand.tmp 56), type := 0, pos := "kinds.go:312", after := #[{ on := 11, ground := Ground.data }, { on := 11, ground := Ground.chain }, { on := 0, ground := Ground.phase }, { on := 1, ground := Ground.phase }, { on := 2, ground := Ground.phase }, { on := 3, ground := Ground.phase }, { on := 4, ground := Ground.phase }, { on := 5, ground := Ground.phase }, { on := 6, ground := Ground.phase }, { on := 7, ground := Ground.phase }, { on := 8, ground := Ground.phase }, { on := 9, ground := Ground.phase }, { on := 10, ground := Ground.phase }, { on := 11, ground := Ground.phase }], guard := none }) rfl (fun K hK => ?_) AllReadyH.nil
            go_simp
            have HV := hid_of (HV.out.put (Nat.le_refl _) HV4.out)
            refine hK.out _ _ (HSx.out _ _ HV.out) (fun hHeld => ?_)
            clear hK K
            try simp only [Act.put]
            refine wpAnyH_done (by kernel_rfl) ?_ _
            go_wp2
            go_roundw
            case rel => exact ⟨k + 1, by have := HLt.out; omega, by go_num, by rw [HSum.out]; exact HV.out⟩
            case measure => have := HLt.out; simp [intOf]; omega
          refine AllReadyH.cons (o := { dst := some 55, op := Op.call { callee := Callee.value (Operand.func 15), args := #[Operand.tmp 52, Operand.tmp 54], argTypes := #[52, 52] }, type := 52, pos := "kinds.go:312", after := #[{ on := 7, ground := Ground.data }, { on := 9, ground := Ground.data }, { on := 9, ground := Ground.chain }], guard := none }) rfl (fun K hK => ?_) AllReadyH.nil
          go_simp
          refine Calls.mono (HM.out _ _ _ _ _ HV1.out HV2.out HTT.out HLv.out) ?_
          rintro e V3 ⟨v3, rfl, hv1, hb⟩
          have HV3 : Hid (IsBig v3 (tt * lv)) := hv1
          have HV : Hid (AtomInv W W2 W.heap.size (sumA (fun s => lookN s ns vs) (ts.take k)) V3) := HV.out.stays hb
          have HB : Hid (Below X.heap.size X V3) := HB.out.trans (hb.mono HB.out.size)
          clear hb hv1 s0 s1 s2 s3 s4 s5 s6 sf
          obtain ⟨s0, s1, s2, s3, s4, s5, s6, sf⟩ := HCl.out _ HB.out
          go_wp2_with fail
          refine hK.out _ _ (HSx.out _ _ HV.out) (fun hHeld => ?_)
          clear hK K
          try simp only [Act.put, List.setIfInBounds_toArray, List.set_cons_zero, List.set_cons_succ]
          refine wpAnyH_ready (rs := [0]) (by kernel_rfl) (by simp) ?_
          refine AllReadyH.cons (o := { dst := some 45, op := Op.load 52 (Operand.tmp 8), type := 52, pos := "kinds.go:312", after := #[], guard := none }) rfl (fun K hK => ?_) AllReadyH.nil
          go_simp
          refine hK.out _ _ (HSx.out _ _ HV.out) (fun hHeld => ?_)
          clear hK K
          try simp only [Act.put, List.setIfInBounds_toArray, List.set_cons_zero, List.set_cons_succ]
          refine wpAnyH_ready (rs := [11]) (by kernel_rfl) (by simp) ?_
          refine AllReadyH.cons (o := { dst := some 56, op := Op.call { callee := Callee.value (Operand.func 14), args := #[Operand.tmp 45, Operand.tmp 55], argTypes := #[52, 52] }, type := 52, pos := "kinds.go:312", after := #[{ on := 0, ground := Ground.data }, { on := 10, ground := Ground.data }, { on := 10, ground := Ground.chain }], guard := none }) rfl (fun K hK => ?_) AllReadyH.nil
          go_simp
          refine Calls.mono (HAdd.out _ _ HV3.out) ?_
          rintro e V4 ⟨v4, rfl, ⟨m', d', rfl, hd1, hd2, hd3⟩, hb⟩
          have HV4 : Hid (IsBig (bigC m' d') (sumA (fun s => lookN s ns vs) (ts.take k) + tt * lv)) := ⟨m', d', rfl, hd1, hd2, hd3⟩
          have HV : Hid (AtomInv W W2 W.heap.size (sumA (fun s => lookN s ns vs) (ts.take k)) V4) := HV.out.stays hb
          have HB : Hid (Below X.heap.size X V4) := HB.out.trans (hb.mono HB.out.size)
          clear hb hd1 hd2 hd3 s0 s1 s2 s3 s4 s5 s6 sf
          obtain ⟨s0, s1, s2, s3, s4, s5, s6, sf⟩ := HCl.out _ HB.out
          go_wp2_with fail
          refine hK.out _ _ (HSx.out _ _ HV.out) (fun hHeld => ?_)
          clear hK K
          try simp only [Act.put, List.setIfInBounds_toArray, List.set_cons_zero, List.set_cons_succ]
          refine wpAnyH_ready (rs := [12]) (by kernel_rfl) (by simp) ?_
          refine AllReadyH.cons (o := { dst := none, op := Op.store 52 (Operand.tmp 8) (Operand.tmp 56), type := 0, pos := "kinds.go:312", after := #[{ on := 11, ground := Ground.data }, { on := 11, ground := Ground.chain }, { on := 0, ground := Ground.phase }, { on := 1, ground := Ground.phase }, { on := 2, ground := Ground.phase }, { on := 3, ground := Ground.phase }, { on := 4, ground := Ground.phase }, { on := 5, ground := Ground.phase }, { on := 6, ground := Ground.phase }, { on := 7, ground := Ground.phase }, { on := 8, ground := Ground.phase }, { on := 9, ground := Ground.phase }, { on := 10, ground := Ground.phase }, { on := 11, ground := Ground.phase }], guard := none }) rfl (fun K hK => ?_) AllReadyH.nil
          go_simp
          have HV := hid_of (HV.out.put (Nat.le_refl _) HV4.out)
          refine hK.out _ _ (HSx.out _ _ HV.out) (fun hHeld => ?_)
          clear hK K
          try simp only [Act.put]
          refine wpAnyH_done (by kernel_rfl) ?_ _
          go_wp2
          go_roundw
          case rel => exact ⟨k + 1, by have := HLt.out; omega, by go_num, by rw [HSum.out]; exact HV.out⟩
          case measure => have := HLt.out; simp [intOf]; omega
        · obtain ⟨bn, on, rfl, hn⟩ := HNr.out.below HV.out.below j hj
          by_cases hjv : j < vs.length
          · obtain ⟨bv, ov, rfl, hv⟩ := intRow_below HIr.out HV.out.below j hjv
            have HLk : Hid (lookN tn (ns.drop j) (vs.drop j) = if eqS (ns.getD j ⟨#[]⟩) tn then vs.getD j 0 else lookN tn (ns.drop (j + 1)) (vs.drop (j + 1))) := lookN_drop tn ns vs j hj
            generalize ns.getD j ⟨#[]⟩ = nj at *
            generalize vs.getD j 0 = vj at *
            generalize lookN tn (ns.drop (j + 1)) (vs.drop (j + 1)) = lv at *
            have hfin : ∀ lv', lookN tn (ns.drop j) (vs.drop j) = lv' → (((j : Int) - 1 = -1 ∧ lv' = lookN tn ns vs) ∨ ∃ i : Nat, i < ns.length ∧ (j : Int) - 1 = i ∧ i < j ∧ lv' = lookN tn (ns.drop (i + 1)) (vs.drop (i + 1))) := by
              intro lv' e
              cases j with
              | zero => left; exact ⟨rfl, by rw [← e]; rfl⟩
              | succ i => right; exact ⟨i, by omega, by omega, by omega, e.symm⟩
            have HFin := hid_of hfin
            clear hfin
            cases he : eqS nj tn with
            | true =>
              have HL : Hid (lookN tn (ns.drop j) (vs.drop j) = vj) := by show _ = _; rw [HLk.out, he]; rfl
              have he2 : (nj.toList == tn.toList) = true := he
              clear he HLk
              go_wp2
              go_region_held3 (fun w' => w'.cell? ⟨bn, on + j, none⟩ = some (.string nj) ∧ w'.cell? ⟨W.heap.size, 4, none⟩ = some (.slice (some ⟨b, off, none⟩) ts.length tc) ∧ w'.cell? ⟨b, off + k * 2, none⟩ = some (.string tn)) (first | exact ⟨hn, c4, h0⟩ | go_keep) (fail)
              clear hn c4 h0
              go_wp2
              go_roundw
              case rel =>
                refine ⟨HV.out.stays (Below.refl _ _).drew, ?_⟩
                rcases HFin.out _ HL.out with ⟨e1, e2⟩ | ⟨i, hi, e1, _, e2⟩
                · left; exact ⟨by rw [e1], by rw [e2]⟩
                · right; exact ⟨i, hi, by rw [e1], by rw [e2]⟩
              case measure => simp [intOf]
            | false =>
              have HL : Hid (lookN tn (ns.drop j) (vs.drop j) = lv) := by show _ = _; rw [HLk.out, he]; rfl
              have he2 : (nj.toList == tn.toList) = false := he
              clear he HLk
              go_wp2
              go_region_held3 (fun w' => w'.cell? ⟨bn, on + j, none⟩ = some (.string nj) ∧ w'.cell? ⟨W.heap.size, 4, none⟩ = some (.slice (some ⟨b, off, none⟩) ts.length tc) ∧ w'.cell? ⟨b, off + k * 2, none⟩ = some (.string tn)) (first | exact ⟨hn, c4, h0⟩ | go_keep) (fail)
              clear hn c4 h0
              go_wp2
              go_roundw
              case rel =>
                refine ⟨HV.out.stays (Below.refl _ _).drew, ?_⟩
                rcases HFin.out _ HL.out with ⟨e1, e2⟩ | ⟨i, hi, e1, _, e2⟩
                · left; exact ⟨by rw [e1], by rw [e2]⟩
                · right; exact ⟨i, hi, by rw [e1], by rw [e2]⟩
              case measure => simp [intOf]
          · have hv0 : vs.getD j 0 = 0 := by rw [List.getD_eq_getElem?_getD, List.getElem?_eq_none (by omega)]; rfl
            have HLk : Hid (lookN tn (ns.drop j) (vs.drop j) = if eqS (ns.getD j ⟨#[]⟩) tn then vs.getD j 0 else lookN tn (ns.drop (j + 1)) (vs.drop (j + 1))) := lookN_drop tn ns vs j hj
            generalize ns.getD j ⟨#[]⟩ = nj at *
            rw [hv0] at HLk
            clear hv0
            generalize lookN tn (ns.drop (j + 1)) (vs.drop (j + 1)) = lv at *
            have hfin : ∀ lv', lookN tn (ns.drop j) (vs.drop j) = lv' → (((j : Int) - 1 = -1 ∧ lv' = lookN tn ns vs) ∨ ∃ i : Nat, i < ns.length ∧ (j : Int) - 1 = i ∧ i < j ∧ lv' = lookN tn (ns.drop (i + 1)) (vs.drop (i + 1))) := by
              intro lv' e
              cases j with
              | zero => left; exact ⟨rfl, by rw [← e]; rfl⟩
              | succ i => right; exact ⟨i, by omega, by omega, by omega, e.symm⟩
            have HFin := hid_of hfin
            clear hfin
            cases he : eqS nj tn with
            | true =>
              have HL : Hid (lookN tn (ns.drop j) (vs.drop j) = 0) := by show _ = _; rw [HLk.out, he]; rfl
              have he2 : (nj.toList == tn.toList) = true := he
              clear he HLk
              go_wp2
              go_region_held3 (fun w' => w'.cell? ⟨bn, on + j, none⟩ = some (.string nj) ∧ w'.cell? ⟨W.heap.size, 4, none⟩ = some (.slice (some ⟨b, off, none⟩) ts.length tc) ∧ w'.cell? ⟨b, off + k * 2, none⟩ = some (.string tn)) (first | exact ⟨hn, c4, h0⟩ | go_keep) (fail)
              clear hn c4 h0
              go_wp2
              go_roundw
              case rel =>
                refine ⟨HV.out.stays (Below.refl _ _).drew, ?_⟩
                rcases HFin.out _ HL.out with ⟨e1, e2⟩ | ⟨i, hi, e1, _, e2⟩
                · left; exact ⟨by rw [e1], by rw [e2]⟩
                · right; exact ⟨i, hi, by rw [e1], by rw [e2]⟩
              case measure => simp [intOf]
            | false =>
              have HL : Hid (lookN tn (ns.drop j) (vs.drop j) = lv) := by show _ = _; rw [HLk.out, he]; rfl
              have he2 : (nj.toList == tn.toList) = false := he
              clear he HLk
              go_wp2
              go_region_held3 (fun w' => w'.cell? ⟨bn, on + j, none⟩ = some (.string nj) ∧ w'.cell? ⟨W.heap.size, 4, none⟩ = some (.slice (some ⟨b, off, none⟩) ts.length tc) ∧ w'.cell? ⟨b, off + k * 2, none⟩ = some (.string tn)) (first | exact ⟨hn, c4, h0⟩ | go_keep) (fail)
              clear hn c4 h0
              go_wp2
              go_roundw
              case rel =>
                refine ⟨HV.out.stays (Below.refl _ _).drew, ?_⟩
                rcases HFin.out _ HL.out with ⟨e1, e2⟩ | ⟨i, hi, e1, _, e2⟩
                · left; exact ⟨by rw [e1], by rw [e2]⟩
                · right; exact ⟨i, hi, by rw [e1], by rw [e2]⟩
              case measure => simp [intOf]
    · have hkk : k = ts.length := by omega
      obtain ⟨m, d, hb1, hb2⟩ := HV.out.big
      rw [hkk, List.take_length] at hb2
      have HB1 : Hid (Below W.heap.size W wr) := HV.out.below
      have HJ2 := hid_of (HJ.out _ wr hb2)
      have s0 := hb1.s
      have s1 : wr.cell? ⟨W.heap.size + 1, 1, none⟩ = some (.int .i64 (d 0)) := hb1.c 0 (by omega)
      have s2 : wr.cell? ⟨W.heap.size + 1, 2, none⟩ = some (.int .i64 (d 1)) := hb1.c 1 (by omega)
      have s3 : wr.cell? ⟨W.heap.size + 1, 3, none⟩ = some (.int .i64 (d 2)) := hb1.c 2 (by omega)
      have s4 : wr.cell? ⟨W.heap.size + 1, 4, none⟩ = some (.int .i64 (d 3)) := hb1.c 3 (by omega)
      have s5 : wr.cell? ⟨W.heap.size + 1, 5, none⟩ = some (.int .i64 (d 4)) := hb1.c 4 (by omega)
      have s6 : wr.cell? ⟨W.heap.size + 1, 6, none⟩ = some (.int .i64 (d 5)) := hb1.c 5 (by omega)
      clear hb1 hb2 hkk
      go_wp2_with fail
      refine Calls.mono HJ2.out ?_
      rintro e V1 ⟨rfl, hb⟩
      go_wp2
      exact bodyPost_ret (v := .tuple #[.bool (holdsB (sumA (fun s => lookN s ns vs) ts) num), .bool (overB (sumA (fun s => lookN s ns vs) ts))]) (by simp [results, Try.results8, go_sem]) rfl ⟨rfl, HB1.out.trans (hb.mono HB1.out.size)⟩
end Go.Proofs.Ytipbjoeekbgnbaa
