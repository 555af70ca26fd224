/- What trace's laws have in common: trees made of trees, All of what is a tree, Rows. Conditions: there. -/
import Derived.Test.YtcpehjndpookiaaTdL
import Derived.Test.YtcpehjndpookiaaCtI
import Derived.Test.YtcpehjndpookiaaTdQ
namespace Go.Proofs.Ytcpehjndpookiaa
open Go.RowKit
set_option linter.unusedVariables false
set_option maxRecDepth 100000

theorem exO_congr (names : List ByteArray) (rows : List RwV) {l m : List NdV} (h : l.map (·.x) = m.map (·.x)) (j : Nat) : exO names rows l j ↔ exO names rows m j := by
  have key : ∀ l : List NdV, exO names rows l j ↔ ∃ x ∈ l.map (·.x), x.op = 2 ∧ atO names rows x j = true := fun l => by
    unfold exO
    simp only [List.mem_map]
    exact ⟨fun ⟨z, hz, q⟩ => ⟨z.x, ⟨z, hz, rfl⟩, q⟩, fun ⟨_, ⟨z, hz, rfl⟩, q⟩ => ⟨z, hz, q⟩⟩
  rw [key l, key m, h]
/-- The same nodes elsewhere are the same trees. -/
theorem Fo.relabel : ∀ (f : Fo) (zs : List NdV), zs.map (·.x) = f.flat.map (·.x) → ∃ f' : Fo, f'.flat = zs ∧ f'.len = f.len ∧ (f.ok → f'.ok) ∧ ∀ names rows, f'.sem names rows = f.sem names rows
  | .nil, zs, h => by
    have : zs = [] := by simpa [Fo.flat] using h
    subst this
    exact ⟨.nil, rfl, rfl, id, fun _ _ => rfl⟩
  | .cons y k s, zs, h => by
    cases zs with
    | nil => simp [Fo.flat] at h
    | cons z zt =>
      simp only [Fo.flat, List.map_cons, List.map_append, List.cons.injEq] at h
      obtain ⟨zk, zs', e, h1, h2⟩ := List.map_eq_append_iff.1 h.2
      obtain ⟨k', a1, a2, a3, a4⟩ := Fo.relabel k zk h1
      obtain ⟨s', b1, b2, b3, b4⟩ := Fo.relabel s zs' h2
      refine ⟨.cons z k' s', by simp [Fo.flat, a1, b1, e], by simp [Fo.len, b2], fun ⟨o1, o2, o3, o4⟩ => ⟨by rw [h.1, a2]; exact o1, by rw [h.1]; exact o2, a3 o3, b3 o4⟩, fun names rows => ?_⟩
      simp only [Fo.sem, a4, b4, h.1]
/-- One forest behind another. -/
def Fo.app : Fo → Fo → Fo
  | .nil, g => g
  | .cons y k s, g => .cons y k (s.app g)
theorem Fo.app_flat (f g : Fo) : (f.app g).flat = f.flat ++ g.flat := by
  induction f with
  | nil => rfl
  | cons y k s _ ih => simp [Fo.app, Fo.flat, ih]
theorem Fo.app_len (f g : Fo) : (f.app g).len = f.len + g.len := by
  induction f with
  | nil => simp [Fo.app, Fo.len]
  | cons y k s _ ih => simp [Fo.app, Fo.len, ih]; omega
theorem Fo.app_ok {f g : Fo} (h : f.ok) (k : g.ok) : (f.app g).ok := by
  induction f with
  | nil => exact k
  | cons y k' s _ ih => exact ⟨h.1, h.2.1, h.2.2.1, ih h.2.2.2⟩
theorem Fo.app_sem (names : List ByteArray) (rows : List RwV) (f g : Fo) : (f.app g).sem names rows = f.sem names rows ++ g.sem names rows := by
  induction f with
  | nil => rfl
  | cons y k s _ ih => simp [Fo.app, Fo.sem, ih]
/-- What All tells of any tree: an error, or verdicts in a list of their own. -/
def AllSays (W : World) (fe : Int) (l : List Int) (e : Ending) (W' : World) : Prop := ∃ va n c, e = .returned (.tuple #[.slice va n c, .int .i64 fe]) ∧ Below W.heap.size W W' ∧ (fe = 0 → n = l.length ∧ Own inC 3 1 W' W.heap.size (.slice va n c) l)
theorem all9 (a : Option Addr) (cap : Nat) (y : NdV) (k : Fo) (nma : Option Addr) (nmc : Nat) (names : List ByteArray) (ra : Option Addr) (rc : Nat) (rows : List RwV) (W : World) (h : NdsAt W a cap (y :: k.flat)) (hfit : NodesFit ((y :: k.flat).map (·.x))) (hok : (Fo.cons y k .nil).ok) (hr : RwsAt W nma names ra rows) :
    Calls Try.prog 13 #[.slice a (y :: k.flat).length cap, .slice nma names.length nmc, .slice ra rows.length rc] W (AllSays W (faultE ((y :: k.flat).map (·.x))) (verd names rows y k rows.length)) := by
  by_cases he : faultE ((y :: k.flat).map (·.x)) = 0
  · refine (all_good9 a cap y k nma nmc names ra rc rows W h hfit hok hr he).mono ?_
    rintro e W' ⟨va, c, rfl, h1, h2⟩
    exact ⟨va, _, c, by rw [he], h2, fun _ => ⟨rfl, h1⟩⟩
  · refine (all_bad9 a cap (y :: k.flat) _ _ W h hfit he).mono ?_
    rintro e W' ⟨rfl, h2⟩
    exact ⟨none, 0, 0, rfl, h2, fun q => absurd q he⟩
theorem lss_pair {X : World} {a b : Option Addr} {ca cb : Nat} {ys zs : List NdV} (h : NdsAt X a ca ys) (k : NdsAt X b cb zs) : LssAt (X.alloc (.cells #[.slice a ys.length ca, .slice b zs.length cb] 22)) (some ⟨X.heap.size, 0, none⟩) 2 [⟨ys, a, ca⟩, ⟨zs, b, cb⟩] :=
  ⟨fun i hi => by
    have hi2 : i = 0 ∨ i = 1 := by simp at hi; omega
    refine ⟨X.heap.size, 0, rfl, fun j hj => ?_⟩
    obtain rfl : j = 0 := by omega
    rcases hi2 with rfl | rfl <;> simp [go_sem, lsC], (fun e => by cases e), Nat.le_refl _, by simp, fun y hy => by
    have hb : Below X.heap.size X (X.alloc (.cells #[.slice a ys.length ca, .slice b zs.length cb] 22)) := (Below.refl _ _).alloc (Nat.le_refl _) _
    simp only [List.mem_cons, List.not_mem_nil, or_false] at hy
    rcases hy with rfl | rfl
    · exact h.below hb
    · exact k.below hb⟩
/-- A tree in hand: its nodes in memory. -/
structure FmAt (W : World) (a : Option Addr) (cap : Nat) (y : NdV) (k : Fo) : Prop where
  nds : NdsAt W a cap (y :: k.flat)
  fit : NodesFit ((y :: k.flat).map (·.x))
  ok : (Fo.cons y k .nil).ok
  few : (y :: k.flat).length ≤ 1000
theorem FmAt.below {W W' : World} {a : Option Addr} {cap : Nat} {y : NdV} {k : Fo} (h : FmAt W a cap y k) (q : Below W.heap.size W W') : FmAt W' a cap y k := ⟨h.nds.below q, h.fit, h.ok, h.few⟩
/-- What came in and is valid is a tree in hand. -/
theorem known_tree {W : World} {a : Option Addr} {cap : Nat} {ys : List NdV} (hr : RowOf ndC 6 W a ys) (hk : ∀ y ∈ ys, NdKnown W y) (hc : ys.length ≤ cap) (hn : a = none → cap = 0) (hv : validB (ys.map (·.x)) = true) : ∃ y k, ys = y :: k.flat ∧ FmAt W a cap y k := by
  have hlen := (valid_rest hv).1
  rw [List.length_map] at hlen
  have hfits : ∀ y ∈ ys, fitsB y.x = true := fun y hy => valid_fitsM hv _ (List.mem_map_of_mem hy)
  have hterm : ∀ y ∈ ys, y.x.terms.length ≤ 1099511627776 := fun y hy => by
    have := hfits y hy
    unfold fitsB fitsAB at this
    simp only [Bool.and_eq_true] at this
    have h3 := this.2
    split at h3
    · simp only [Bool.and_eq_true, decide_eq_true_eq] at h3; omega
    · simp only [Bool.and_eq_true, beq_iff_eq] at h3; omega
  have hs := valid_scan hv
  rw [List.length_map] at hs
  obtain ⟨f, l1, l2, l3⟩ := parse_of ys 1 (by omega) (by omega) (fun y hy => ⟨fitsB_n (hfits y hy), by have := (hk y hy).2.2.2.2.2.1; unfold B64 at this; omega⟩) hs
  cases f with
  | nil => simp [Fo.len] at l1
  | cons y k s =>
    cases s with
    | cons y2 k2 s2 => simp [Fo.len] at l1
    | nil =>
      have e : ys = y :: k.flat := by rw [← l2]; simp [Fo.flat]
      refine ⟨y, k, e, ⟨by rw [← e]; exact known_at hr hk hc hn (by omega) hterm, by rw [← e]; exact known_fit hk, Fo.ok_of _ l3 fun z hz => ?_, by rw [← e]; omega⟩⟩
      rw [l2] at hz
      obtain ⟨_, k2, k3, _, _, _, _, _, k9⟩ := hk z hz
      exact fits_good (hfits z hz) k2 k3 k9
end Go.Proofs.Ytcpehjndpookiaa

namespace Go.Proofs.Ytcpehjndpookiaa
open Go.RowKit
set_option linter.unusedVariables false
set_option maxRecDepth 100000

theorem rwC_len (r : RwV) : (rwC r).length = 1 := rfl
theorem rwC_one (r : RwV) : ∀ u ∈ rwC r, u.oneCell' = true := by intro u hu; simp [rwC] at hu; subst hu; rfl
theorem infoRw : (Try.prog.info? 32).map (fun i => (i.zero, i.size, i.bytes)) = some (some (.slice none 0 0), 1, 24) := by kernel_rfl
theorem RoRow.cells {w : World} {a : Option Addr} {rows : List RwV} (h : RoRow w a rows) : RowOf rwC 1 w a rows := fun i hi => by
  obtain ⟨b, off, e, h1, _⟩ := h i hi
  refine ⟨b, off, e, fun j hj => ?_⟩
  obtain rfl : j = 0 := by omega
  simpa [rwC] using h1
/-- 'append(append(nil, rows...), more...)'. -/
theorem rows_appended {X : World} {ra ma : Option Addr} {rc mc : Nat} {rows more : List RwV} (h : RoRow X ra rows) (k : RoRow X ma more) (hr : ra = none → rc = 0) (hm : ma = none → mc = 0) (l1 : rows.length ≤ 100000) (l2 : more.length ≤ 100000) :
    ∃ v1 X1 va n c X2, (Builtin.append_ #[24, 24] 24 #[.slice none 0 0, .slice ra rows.length rc]).run Try.prog X = .ok v1 X1 ∧ (Builtin.append_ #[24, 24] 24 #[v1, .slice ma more.length mc]).run Try.prog X1 = .ok (.slice va n c) X2 ∧ n = (rows ++ more).length ∧ RoRow X2 va (rows ++ more) ∧ Below X.heap.size X X2 := by
  obtain ⟨v1, X1, r1, o1, g1, _⟩ := Own.appendRow rwC_len rwC_one Try.underlying24 infoRw rfl (by omega) X X.heap.size (.slice none 0 0) [] (Own.nil _ _ _ _ _) ra rows rc hr h.cells (by unfold maxLen; simp; omega) (by simp; omega) (Nat.le_refl _)
  have b1 : Below X.heap.size X X1 := (Below.refl _ X).grown g1 (Nat.le_refl _) (fun q hq => by cases hq)
  rw [List.nil_append] at o1
  obtain ⟨v2, X2, r2, o2, g2, _⟩ := Own.appendRow rwC_len rwC_one Try.underlying24 infoRw rfl (by omega) X1 X.heap.size v1 rows o1 ma more mc hm (k.below b1).cells (by unfold maxLen; omega) (by omega) b1.size
  have b2 : Below X.heap.size X X2 := b1.trans ((Mod.grown g2).belowOf b1.size fun g hg => (Own.lt o1 g (by simpa using hg)).1)
  obtain ⟨va, c, rfl, _, _, hrow⟩ := o2.sl rwC_len default
  refine ⟨v1, X1, va, _, c, X2, r1, r2, rfl, fun i hi => ?_, b2⟩
  obtain ⟨g, e, _, _, hc⟩ := hrow i hi
  refine ⟨g, 0, e, ?_, ?_⟩
  · have := hc 0 (by omega); simpa [rwC] using this
  · by_cases hlt : i < rows.length
    · rw [show (rows ++ more).getD i default = rows.getD i default by rw [List.getD_eq_getElem?_getD, List.getD_eq_getElem?_getD, List.getElem?_append_left hlt]]
      obtain ⟨_, _, _, _, q⟩ := h i hlt
      exact q.below b2
    · rw [List.length_append] at hi
      rw [show (rows ++ more).getD i default = more.getD (i - rows.length) default by rw [List.getD_eq_getElem?_getD, List.getD_eq_getElem?_getD, List.getElem?_append_right (by omega)]]
      obtain ⟨_, _, _, _, q⟩ := k (i - rows.length) (by omega)
      exact q.below b2
set_option maxHeartbeats 2000000 in
theorem same9_any (a b : Option Addr) (ca cb : Nat) (l : List Int) (W : World) (h : IRow W a l) (k : IRow W b l) (hl : l.length ≤ 1000000) :
    Calls Try.prog 14 #[.slice a l.length ca, .slice b l.length cb] W fun e W' => e = .returned (.bool true) ∧ Below W.heap.size W W' := by
  have HA : Hid (IRow W a l) := h
  have HB : Hid (IRow W b l) := k
  clear h k
  go_enter Try.func14, Try.ntmps14
  have HA2 : Hid (∀ X, Below W.heap.size W X → IRow X a l) := fun X hX => HA.out.below hX
  have HB2 : Hid (∀ X, Below W.heap.size W X → IRow X b l) := fun X hX => HB.out.below hX
  go_wp2
  go_loopw [5] (fun i wr => ∃ k : Nat, k ≤ l.length ∧ i = .int .i64 k ∧ Below W.heap.size W wr) (fun i _ => l.length - (intOf i).toNat)
  case atStart => exact ⟨0, Nat.zero_le _, rfl, Below.refl _ _⟩
  case round =>
    obtain ⟨k, hk, rfl, hb⟩ := hrel
    have HBW : Hid (Below W.heap.size W wr) := hb
    clear hb
    by_cases hlt : k < l.length
    · obtain ⟨g, off, rfl, _⟩ := HA.out k hlt
      obtain ⟨g2, off2, rfl, _⟩ := HB.out k hlt
      have HALL : Hid (∀ X, Below W.heap.size W X → X.cell? ⟨g, off + k, none⟩ = some (.int .i64 (l.getD k 0)) ∧ X.cell? ⟨g2, off2 + k, none⟩ = some (.int .i64 (l.getD k 0))) := fun X hX => by
        obtain ⟨_, _, e1, q1⟩ := HA2.out X hX k hlt
        obtain ⟨_, _, e2, q2⟩ := HB2.out X hX k hlt
        cases e1; cases e2; exact ⟨q1, q2⟩
      have HBC : Hid (Below W.heap.size W wr.drew) := HBW.out.drew
      generalize l.getD k 0 = v at *
      go_wp2_with fail
      refine wp_region_held_drew (S := fun W' => W'.cell? ⟨g, off + k, none⟩ = some (.int .i64 v) ∧ W'.cell? ⟨g2, off2 + k, none⟩ = some (.int .i64 v)) (by kernel_rfl) (HALL.out _ HBC.out) (fun hHeld => ?_)
      refine wpAnyH_take (i := 0) (oi := { dst := some 17, op := Op.move (Operand.tmp 0), type := 32, pos := "book.go:127", after := #[], guard := none }) (v := ?_) rfl (by kernel_rfl) (by kernel_rfl) (by kernel_rfl) (fun _ _ _ h => h) (Or.inl ⟨by rfl, ?_⟩) hHeld ?_
      rotate_left
      · (intro w hSw; (try dsimp only at hSw); go_simp; all_goals (try with_reducible rfl))
      try simp only [Act.put, List.setIfInBounds_toArray, List.set_cons_zero, List.set_cons_succ]
      refine wpAnyH_take (i := 1) (oi := { dst := some 18, op := Op.move (Operand.tmp 5), type := 3, pos := "book.go:127", after := #[], guard := none }) (v := ?_) rfl (by kernel_rfl) (by kernel_rfl) (by kernel_rfl) (fun _ _ _ h => h) (Or.inl ⟨by rfl, ?_⟩) hHeld ?_
      rotate_left
      · (intro w hSw; (try dsimp only at hSw); go_simp; all_goals (try with_reducible rfl))
      try simp only [Act.put, List.setIfInBounds_toArray, List.set_cons_zero, List.set_cons_succ]
      refine wpAnyH_take (i := 2) (oi := { dst := some 19, op := Op.indexAddr 32 (Operand.tmp 17) (Operand.tmp 18), type := 0, pos := "book.go:127", after := #[{ on := 0, ground := Ground.data }, { on := 1, ground := Ground.data }], guard := none }) (v := ?_) rfl (by kernel_rfl) (by kernel_rfl) (by kernel_rfl) (fun _ _ _ h => h) (Or.inl ⟨by rfl, ?_⟩) hHeld ?_
      rotate_left
      · (intro w hSw; (try dsimp only at hSw); go_simp; all_goals (try with_reducible rfl))
      try simp only [Act.put, List.setIfInBounds_toArray, List.set_cons_zero, List.set_cons_succ]
      refine wpAnyH_take (i := 3) (oi := { dst := some 20, op := Op.load 3 (Operand.tmp 19), type := 3, pos := "book.go:127", after := #[{ on := 2, ground := Ground.data }], guard := none }) (v := ?_) rfl (by kernel_rfl) (by kernel_rfl) (by kernel_rfl) (fun _ _ _ h => h) (Or.inl ⟨by rfl, ?_⟩) hHeld ?_
      rotate_left
      · (intro w hSw; (try dsimp only at hSw); go_simp; all_goals (try with_reducible rfl))
      try simp only [Act.put, List.setIfInBounds_toArray, List.set_cons_zero, List.set_cons_succ]
      refine wpAnyH_take (i := 4) (oi := { dst := some 21, op := Op.move (Operand.tmp 1), type := 32, pos := "book.go:127", after := #[], guard := none }) (v := ?_) rfl (by kernel_rfl) (by kernel_rfl) (by kernel_rfl) (fun _ _ _ h => h) (Or.inl ⟨by rfl, ?_⟩) hHeld ?_
      rotate_left
      · (intro w hSw; (try dsimp only at hSw); go_simp; all_goals (try with_reducible rfl))
      try simp only [Act.put, List.setIfInBounds_toArray, List.set_cons_zero, List.set_cons_succ]
      refine wpAnyH_take (i := 5) (oi := { dst := some 22, op := Op.move (Operand.tmp 5), type := 3, pos := "book.go:127", after := #[], guard := none }) (v := ?_) rfl (by kernel_rfl) (by kernel_rfl) (by kernel_rfl) (fun _ _ _ h => h) (Or.inl ⟨by rfl, ?_⟩) hHeld ?_
      rotate_left
      · (intro w hSw; (try dsimp only at hSw); go_simp; all_goals (try with_reducible rfl))
      try simp only [Act.put, List.setIfInBounds_toArray, List.set_cons_zero, List.set_cons_succ]
      refine wpAnyH_take (i := 6) (oi := { dst := some 23, op := Op.indexAddr 32 (Operand.tmp 21) (Operand.tmp 22), type := 0, pos := "book.go:127", after := #[{ on := 4, ground := Ground.data }, { on := 5, ground := Ground.data }], guard := none }) (v := ?_) rfl (by kernel_rfl) (by kernel_rfl) (by kernel_rfl) (fun _ _ _ h => h) (Or.inl ⟨by rfl, ?_⟩) hHeld ?_
      rotate_left
      · (intro w hSw; (try dsimp only at hSw); go_simp; all_goals (try with_reducible rfl))
      try simp only [Act.put, List.setIfInBounds_toArray, List.set_cons_zero, List.set_cons_succ]
      refine wpAnyH_take (i := 7) (oi := { dst := some 24, op := Op.load 3 (Operand.tmp 23), type := 3, pos := "book.go:127", after := #[{ on := 6, ground := Ground.data }], guard := none }) (v := ?_) rfl (by kernel_rfl) (by kernel_rfl) (by kernel_rfl) (fun _ _ _ h => h) (Or.inl ⟨by rfl, ?_⟩) hHeld ?_
      rotate_left
      · (intro w hSw; (try dsimp only at hSw); go_simp; all_goals (try with_reducible rfl))
      try simp only [Act.put, List.setIfInBounds_toArray, List.set_cons_zero, List.set_cons_succ]
      refine wpAnyH_take (i := 8) (oi := { dst := some 25, op := Op.binOp BinOp.eql 3 (Operand.tmp 20) (Operand.tmp 24) 3, type := 4, pos := "book.go:127", after := #[{ on := 3, ground := Ground.data }, { on := 7, ground := Ground.data }], guard := none }) (v := ?_) rfl (by kernel_rfl) (by kernel_rfl) (by kernel_rfl) (fun _ _ _ h => h) (Or.inl ⟨by rfl, ?_⟩) hHeld ?_
      rotate_left
      · (intro w hSw; (try dsimp only at hSw); go_simp; all_goals (try with_reducible rfl))
      try simp only [Act.put, List.setIfInBounds_toArray, List.set_cons_zero, List.set_cons_succ]
      refine wpAnyH_take (i := 9) (oi := { dst := some 26, op := Op.unOp UnOp.not 4 (Operand.tmp 25), type := 4, pos := "book.go:127", after := #[{ on := 8, ground := Ground.data }], guard := none }) (v := ?_) rfl (by kernel_rfl) (by kernel_rfl) (by kernel_rfl) (fun _ _ _ h => h) (Or.inl ⟨by rfl, ?_⟩) hHeld ?_
      rotate_left
      · (intro w hSw; (try dsimp only at hSw); go_simp; all_goals (try with_reducible rfl))
      try simp only [Act.put, List.setIfInBounds_toArray, List.set_cons_zero, List.set_cons_succ]
      refine wpAnyH_done (by kernel_rfl) ?_ _
      go_wp2
      go_roundw
      case rel => exact ⟨k + 1, by omega, by go_num, HBC.out⟩
      case measure => simp [intOf]; omega
    · have hkk : k = l.length := by omega
      clear hlt
      go_wp2
      go_ret
      exact ⟨rfl, HBW.out⟩
end Go.Proofs.Ytcpehjndpookiaa

namespace Go.Proofs.Ytcpehjndpookiaa
open Go.RowKit
set_option linter.unusedVariables false
set_option maxRecDepth 100000

/-- A tree that was made: a node and the trees within it. -/
def TreeMade (W : World) (x : Nd) (F : Fo) (e : Ending) (W' : World) : Prop :=
  ∃ a c z k, e = .returned (.slice a (z :: k.flat).length c) ∧ FmAt W' a c z k ∧ z.x = { x with n := (F.len : Int) } ∧ (∀ names rows, k.sem names rows = F.sem names rows) ∧ k.flat.map (·.x) = F.flat.map (·.x) ∧ Below W.heap.size W W'
theorem make_forest (x : Nd) (hx : x.terms = []) (hop : x.op ≠ 2) (hfr : (x.op = 8 ∨ x.op = 9 ∨ x.op = 10) → 0 ≤ x.fr) (hnum : B64 x.num) (L : List LsV) (F : Fo) (hF : F.flat = flat L) (hlen : F.len = L.length) (hok : F.ok) (a : Option Addr) (cap : Nat) (X : World) (hl : LssAt X a cap L) (hfit : NodesFit ((flat L).map (·.x))) (hfew : (flat L).length ≤ 900) (hl9 : L.length ≤ 900) (ht : tot L ≤ 549755813888) :
    Calls Try.prog 12 #[.agg #[.int .i64 x.op, .int .i64 x.n, .int .i64 x.fr, .int .i64 x.to, .slice none 0 0, .int .i64 x.num], .slice a L.length cap] X (TreeMade X x F) := by
  have hm := make_any ⟨x, none, 0⟩ a cap L X (tms_none X x hx) hl ht (by omega)
  rw [show (NdV.mk x none 0).x = x from rfl, hx] at hm
  refine Calls.mono hm ?_
  rintro e W' ⟨v, zs, rfl, hown, hmap, hb⟩
  cases zs with
  | nil => simp at hmap
  | cons z zt =>
    simp only [List.map_cons, List.cons.injEq] at hmap
    obtain ⟨hz, hzt⟩ := hmap
    rw [← hF] at hzt
    obtain ⟨k, k1, k2, k3, k4⟩ := Fo.relabel F zt hzt
    have hxn : ({ x with n := (L.length : Int) } : Nd).terms = [] := hx
    have hfitz : NodesFit ((z :: zt).map (·.x)) := fun w hw => by
      simp only [List.map_cons, List.mem_cons] at hw
      rcases hw with rfl | hw
      · rw [hz]
        exact ⟨fun t htt => (by rw [hxn] at htt; cases htt), by rw [hxn]; simp, by show (L.length : Int) ≤ _; omega⟩
      · rw [hzt, hF] at hw
        exact hfit w hw
    have hztl : zt.length = (flat L).length := by have := congrArg List.length hzt; rw [List.length_map, List.length_map, hF] at this; exact this
    have hokF := k3 hok
    have hterm : ∀ w ∈ z :: zt, w.x.terms.length ≤ 1099511627776 := fun w hw => by
      rcases List.mem_cons.1 hw with rfl | hw
      · rw [hz, hxn]; simp
      · have := Fo.ok_good k hokF w (by rw [k1]; exact hw)
        have := this.2.2.2.1; omega
    obtain ⟨sa, sc, rfl, _⟩ := hown.row.sl ndC_len default
    obtain ⟨_, hnds⟩ := OwnN.at hown (by simp; omega) hterm
    refine ⟨sa, sc, z, k, by rw [k1], ⟨by rw [k1]; exact hnds, by rw [k1]; exact hfitz, ⟨?_, ?_, hokF, trivial⟩, by rw [k1]; simp; omega⟩, by rw [hz, hlen], k4, by rw [k1]; exact hzt, hb⟩
    · rw [hz, k2, hlen]
    · rw [hz]
      exact ⟨fun t htt => (by rw [hxn] at htt; cases htt), fun t htt => (by rw [hxn] at htt; cases htt), hnum, by rw [hxn]; simp, hfr, fun h => absurd h hop⟩
/-- Make of a node and two trees whose slices were just laid. -/
theorem make_two9 (op fr to : Int) (hop : op ≠ 2) (hfr : (op = 8 ∨ op = 9 ∨ op = 10) → 0 ≤ fr) {X : World} {a b : Option Addr} {ca cb : Nat} {y z : NdV} {k l : Fo} (h : FmAt X a ca y k) (h2 : FmAt X b cb z l) (hs : (y :: k.flat).length + (z :: l.flat).length ≤ 900) :
    Calls Try.prog 12 #[.agg #[.int .i64 op, .int .i64 0, .int .i64 fr, .int .i64 to, .slice none 0 0, .int .i64 0], .slice (some ⟨X.heap.size, 0, none⟩) 2 2] (X.alloc (.cells #[.slice a (y :: k.flat).length ca, .slice b (z :: l.flat).length cb] 22)) (TreeMade X ⟨op, 0, fr, to, [], 0⟩ (.cons y k (.cons z l .nil))) := by
  have := make_forest ⟨op, 0, fr, to, [], 0⟩ rfl hop hfr (by unfold B64; simp) [⟨y :: k.flat, a, ca⟩, ⟨z :: l.flat, b, cb⟩] (.cons y k (.cons z l .nil)) (by simp [Fo.flat, flat]) rfl ⟨h.ok.1, h.ok.2.1, h.ok.2.2.1, h2.ok⟩ _ 2 _ (lss_pair h.nds h2.nds) (fun w hw => by
    simp only [flat, List.flatMap_cons, List.flatMap_nil, List.append_nil, List.map_append, List.mem_append] at hw
    exact hw.elim (h.fit w) (h2.fit w)) (by simp [flat] at hs ⊢; omega) (by simp) (by simp [tot] at hs ⊢; omega)
  refine this.mono ?_
  rintro e W' ⟨a', c', z', k', e1, e2, e3, e4, e5, e6⟩
  exact ⟨a', c', z', k', e1, e2, e3, e4, e5, ((Below.refl _ X).alloc (Nat.le_refl _) _).trans (e6.mono (by simp))⟩
theorem all_if {X : Type} [Inhabited X] (p : X → Bool) (l : List X) (h : ∀ j, j < l.length → p (l.getD j default) = true) : l.all p = true := by
  rw [List.all_eq_true]
  intro x hx
  obtain ⟨i, hi, rfl⟩ := List.getElem_of_mem hx
  have := h i hi
  simpa [List.getD_eq_getElem?_getD, hi] using this
theorem all_not {X : Type} [Inhabited X] (p : X → Bool) (l : List X) (k : Nat) (hk : k < l.length) (h : p (l.getD k default) = false) : l.all p = false := by
  rw [List.all_eq_false]
  refine ⟨l[k], List.getElem_mem hk, ?_⟩
  simpa [List.getD_eq_getElem?_getD, hk] using h
def rowsB (rows : List RwV) (n : Nat) : Bool := decide (rows.length ≤ 60) && decide (n ≤ 30) && rows.all fun r => decide (r.zs.length ≤ 40)
set_option maxHeartbeats 2000000 in
theorem rows_any (ra nma : Option Addr) (rc nmc n : Nat) (rows : List RwV) (W : World) (h : RoRow W ra rows) :
    Calls Try.prog 10 #[.slice ra rows.length rc, .slice nma n nmc] W fun e W' => e = .returned (.bool (rowsB rows n)) ∧ W' = W := by
  have HR : Hid (RoRow W ra rows) := h
  clear h
  by_cases h1 : rows.length ≤ 60
  · by_cases h2 : n ≤ 30
    · have HE : Hid (rowsB rows n = rows.all fun r => decide (r.zs.length ≤ 40)) := by simp [Hid, rowsB, h1, h2]
      go_enter Try.func10, Try.ntmps10
      have HY : Hid ((∀ j, j < rows.length → (rows.getD j default).zs.length ≤ 40) → rowsB rows n = true) := fun q => by
        rw [HE.out]; exact all_if _ rows fun j hj => by simpa using q j hj
      have HN : Hid (∀ k, k < rows.length → ¬ (rows.getD k default).zs.length ≤ 40 → rowsB rows n = false) := fun k hk q => by
        rw [HE.out]; exact all_not _ rows k hk (by simpa using q)
      go_wp2
      go_loopw [5] (fun i wr => ∃ k : Nat, k ≤ rows.length ∧ i = .int .i64 k ∧ wr = W ∧ ∀ j, j < k → (rows.getD j default).zs.length ≤ 40) (fun i _ => rows.length - (intOf i).toNat)
      case atStart => exact ⟨0, Nat.zero_le _, rfl, rfl, fun j hj => by omega⟩
      case round =>
        obtain ⟨k, hk, rfl, rfl, hj⟩ := hrel
        have HJ : Hid (∀ j, j < k → (rows.getD j default).zs.length ≤ 40) := hj
        clear hj
        by_cases hlt : k < rows.length
        · obtain ⟨b, off, rfl, c0, _⟩ := HR.out k hlt
          by_cases h40 : (rows.getD k default).zs.length ≤ 40
          · have HJ2 : Hid (∀ j, j < k + 1 → (rows.getD j default).zs.length ≤ 40) := fun j hj => by
              rcases Nat.lt_succ_iff_lt_or_eq.1 hj with z | z
              · exact HJ.out j z
              · subst z; exact h40
            generalize (rows.getD k default).zs.length = zl at *
            go_wp2
            go_roundw
            case rel => exact ⟨k + 1, by omega, by go_num, by trivial, HJ2.out⟩
            case measure => simp [intOf]; omega
          · have HF : Hid (rowsB rows n = false) := HN.out k hlt h40
            generalize (rows.getD k default).zs.length = zl at *
            go_wp2
            go_ret
            exact ⟨ret_bool HF.out.symm, rfl⟩
        · have hkk : k = rows.length := by omega
          have HF : Hid (rowsB rows n = true) := HY.out (by rw [← hkk]; exact HJ.out)
          clear hkk
          go_wp2
          go_ret
          exact ⟨ret_bool HF.out.symm, rfl⟩
    · have HE : Hid (rowsB rows n = false) := by simp [Hid, rowsB, h2]
      go_enter Try.func10, Try.ntmps10
      go_wp2
      go_ret
      exact ⟨ret_bool HE.out.symm, rfl⟩
  · have HE : Hid (rowsB rows n = false) := by simp [Hid, rowsB, h1]
    go_enter Try.func10, Try.ntmps10
    go_wp2
    go_ret
    exact ⟨ret_bool HE.out.symm, rfl⟩
end Go.Proofs.Ytcpehjndpookiaa
