/- Wire's Next. Conditions: how many bytes there are. -/
import Derived.Test.YtglkoedmonenoaaWrP
namespace Go.Proofs.Ytglkoedmonenoaa
open Go.RowKit
set_option linter.unusedVariables false
set_option maxRecDepth 100000

/-- How many bytes are lost ahead of the next frame. -/
def skipL : List UInt8 → Nat
  | [] => 0
  | c :: l => if readE (c :: l) = 4 then skipL l + 1 else 0
theorem skipL_le : ∀ l, skipL l ≤ l.length
  | [] => Nat.le_refl _
  | c :: l => by
    unfold skipL
    split
    · have := skipL_le l; simp; omega
    · omega
theorem readE_nil : readE [] = 5 := rfl
theorem skip_at : ∀ (l : List UInt8) (d : Nat), d < skipL l → readE (l.drop d) = 4
  | [], d, h => by simp [skipL] at h
  | c :: l, d, h => by
    unfold skipL at h
    split at h
    · rename_i h4
      cases d with
      | zero => exact h4
      | succ d => exact skip_at l d (by omega)
    · omega
theorem skip_end : ∀ (l : List UInt8), readE (l.drop (skipL l)) ≠ 4
  | [] => by show readE [] ≠ 4; rw [readE_nil]; decide
  | c :: l => by
    unfold skipL
    split
    · exact skip_end l
    · rename_i h; exact h
theorem lensE_vals (l : List UInt8) : lensE l = 0 ∨ lensE l = 4 ∨ lensE l = 5 := by
  unfold lensE
  split; · exact .inr (.inl rfl)
  split; · exact .inr (.inr rfl)
  split; · exact .inr (.inl rfl)
  split; · exact .inr (.inr rfl)
  split; · exact .inr (.inl rfl)
  exact .inl rfl
theorem sumE_vals (l : List UInt8) (i : Nat) : sumE l i = 0 ∨ sumE l i = 4 ∨ sumE l i = 5 := by
  unfold sumE
  split; · exact .inr (.inr rfl)
  split
  · split; · exact .inr (.inr rfl)
    exact .inl rfl
  · exact .inr (.inl rfl)
theorem readE_vals (l : List UInt8) : readE l = 0 ∨ readE l = 4 ∨ readE l = 5 := by
  unfold readE
  split
  · exact sumE_vals _ _
  · exact lensE_vals _
/-- A Reader, by what is left. -/
structure RdIs (W : World) (B r : Nat) (v : Value) (l : List UInt8) (lost : Int) : Prop where
  ex : ∃ H G, RdAt W B r v H G lost ∧ H.drop G = l ∧ 2 * G ≤ H.length
theorem RdIs.mod {W W' : World} {B r : Nat} {v : Value} {l : List UInt8} {lost : Int} {S : List Nat} (h : RdIs W B r v l lost) (k : Mod S W W') (hS : ∀ i ∈ rdS r v, i ∉ S) : RdIs W' B r v l lost := by
  obtain ⟨H, G, h1, h2⟩ := h.ex
  exact ⟨H, G, h1.mod k hS, h2⟩
theorem RdIs.below {W W' : World} {B r : Nat} {v : Value} {l : List UInt8} {lost : Int} (h : RdIs W B r v l lost) (k : Below W.heap.size W W') : RdIs W' B r v l lost := h.mod (S := []) (Mod.of_below k) (by simp)
theorem RdIs.lt {W : World} {B r : Nat} {v : Value} {l : List UInt8} {lost : Int} (h : RdIs W B r v l lost) : ∀ i ∈ rdS r v, i < W.heap.size := by
  obtain ⟨H, G, h1, h2⟩ := h.ex
  intro i hi
  simp only [rdS, List.mem_cons, Option.mem_toList] at hi
  rcases hi with rfl | hi
  · exact h1.lt
  · exact (h1.ob.lt i hi).2
theorem RdIs.c2 {W : World} {B r : Nat} {v : Value} {l : List UInt8} {lost : Int} (h : RdIs W B r v l lost) : W.cell? ⟨r, 2, none⟩ = some (.int .i64 lost) ∧ ∀ i, W.frozen? ⟨r, i, none⟩ = false := by
  obtain ⟨H, G, h1, h2⟩ := h.ex
  exact ⟨h1.c2, h1.f⟩
theorem RdIs.set2 {W : World} {B r : Nat} {v : Value} {l : List UInt8} {lost : Int} (h : RdIs W B r v l lost) (lost' : Int) : RdIs (W.setCell ⟨r, 2, none⟩ (.int .i64 lost')) B r v l lost' := by
  obtain ⟨H, G, h1, h2⟩ := h.ex
  exact ⟨H, G, h1.set2 lost', h2⟩
theorem RdIs.len {W : World} {B r : Nat} {v : Value} {l : List UInt8} {lost : Int} (h : RdIs W B r v l lost) : l.length ≤ 500000000 := by
  obtain ⟨H, G, h1, h2, h3⟩ := h.ex
  rw [← h2, List.length_drop]; have := h1.len; omega
/-- What has become of a Reader: only its own block has turned, what it holds is as old or new. -/
structure RdTo (W W' : World) (B r : Nat) (v v' : Value) (l : List UInt8) (lost : Int) : Prop where
  is : RdIs W' B r v' l lost
  mod : Mod [r] W W'
  new : ∀ g, v'.ownBlock = some g → v.ownBlock = some g ∨ W.heap.size ≤ g
theorem drop_is {W : World} {B r : Nat} {v : Value} {l : List UInt8} {lost : Int} (h : RdIs W B r v l lost) (n : Nat) (hn : n ≤ l.length) (hB : B ≤ W.heap.size) :
    Calls Try.prog 19 #[.pointer (some ⟨r, 0, none⟩), .int .i64 n] W fun e w' => e = .returned (.tuple #[]) ∧ ∃ v', RdTo W w' B r v v' (l.drop n) lost := by
  obtain ⟨H, G, h1, h2, h3⟩ := h.ex
  have hle : G + n ≤ H.length := by rw [← h2, List.length_drop] at hn; have := h1.g; omega
  refine Calls.mono (drop_any h1 n hle hB) ?_
  rintro e w' ⟨rfl, v', H', G', hd⟩
  exact ⟨rfl, v', ⟨⟨H', G', hd.rd, by rw [hd.rest, ← h2, List.drop_drop], hd.half⟩⟩, hd.mod, hd.new⟩
theorem Mod.over {S T : List Nat} {x y z : World} (h : Mod S x y) (k : Mod T y z) (hT : ∀ i ∈ T, x.heap.size ≤ i) : Mod S x z :=
  ⟨k.os.trans h.os, k.tape.trans h.tape, k.output.trans h.output, Nat.le_trans h.size k.size, fun i hi hb => (k.block i (Nat.lt_of_lt_of_le hi h.size) fun hs => by have := hT i hs; omega).trans (h.block i hi hb)⟩
theorem RdTo.trans {W X Y : World} {B r : Nat} {v v1 v2 : Value} {l l2 : List UInt8} {lost lost2 : Int} (h : RdTo W X B r v v1 l lost) (k : RdTo X Y B r v1 v2 l2 lost2) : RdTo W Y B r v v2 l2 lost2 :=
  ⟨k.is, h.mod.trans k.mod, fun g e => by
    rcases k.new g e with q | q
    · exact h.new g q
    · exact .inr (Nat.le_trans h.mod.size q)⟩
theorem RdIs.ne {W : World} {B r x : Nat} {v u : Value} {l : List UInt8} {lost : Int} (h : RdIs W B r v l lost) (hx : W.cell? ⟨x, 0, none⟩ = some u) (hu : ∀ c, u ≠ .int .u8 c) : v.ownBlock ≠ some x := by
  obtain ⟨H, G, h1, _⟩ := h.ex
  exact h1.ob.ne h1.nil hx hu
/-- A frame that is stored elsewhere leaves the Reader as it is. -/
theorem RdTo.stored {W X : World} {B r x : Nat} {v v1 : Value} {l : List UInt8} {lost : Int} {k fr t : Int} {a b : Value} (h : RdTo W X B r v v1 l lost) (hx : FrAt X x k fr t a b) (hr : r < W.heap.size) (hlo : W.heap.size ≤ x) (k' fr' t' : Int) (a' b' : Value) : RdTo W (frSet X x k' fr' t' a' b') B r v v1 l lost := by
  have hm := frSet_mod X x k' fr' t' a' b'
  refine ⟨h.is.mod hm ?_, h.mod.over hm (by simp; exact hlo), h.new⟩
  intro i hi
  simp only [rdS, List.mem_cons, Option.mem_toList] at hi
  rcases hi with rfl | hi
  · simp; omega
  · have := h.is.ne hx.c0 (fun c e => by cases e)
    simp; intro e; subst e; exact this hi
/-- The lost bytes, off memory. -/
def lostOf (W : World) (r : Nat) : Int := match W.cell? ⟨r, 2, none⟩ with | some (.int _ z) => z | _ => 0
theorem lostOf_eq {W : World} {r : Nat} {z : Int} (h : W.cell? ⟨r, 2, none⟩ = some (.int .i64 z)) : lostOf W r = z := by unfold lostOf; rw [h]
structure NextInv (W wr : World) (B r : Nat) (v : Value) (l : List UInt8) (lost : Int) (d : Nat) (v' : Value) : Prop where
  le : d ≤ skipL l
  rd : RdTo W wr B r v v' (l.drop d) (lost + d)
  res : FrAt wr W.heap.size 0 0 0 (.slice none 0 0) (.string ⟨#[]⟩)
/-- What Next tells. -/
def NextIs (W w' : World) (B r : Nat) (v : Value) (l : List UInt8) (lost : Int) (u v' : Value) : Prop :=
  (readE (l.drop (skipL l)) = 0 ∧ ∃ g, u = .tuple #[frOf (readF (l.drop (skipL l))) (.slice (some ⟨g, 0, none⟩) (readF (l.drop (skipL l))).zs.length (readF (l.drop (skipL l))).zs.length), .bool true] ∧ IntRow w' (some ⟨g, 0, none⟩) (readF (l.drop (skipL l))).zs ∧ ZeroRow w' g (readF (l.drop (skipL l))).zs.length ∧ W.heap.size ≤ g ∧ RdTo W w' B r v v' ((l.drop (skipL l)).drop (readN (l.drop (skipL l)))) (lost + skipL l)) ∨
  (readE (l.drop (skipL l)) ≠ 0 ∧ u = .tuple #[zeroFr, .bool false] ∧ RdTo W w' B r v v' (l.drop (skipL l)) (lost + skipL l))
set_option maxHeartbeats 4000000 in
theorem next_any {W : World} {B r : Nat} {v : Value} {l : List UInt8} {lost : Int} (h : RdIs W B r v l lost) (hB : B ≤ W.heap.size) (h0 : 0 ≤ lost) (h1 : lost ≤ 1000000000000) :
    Calls Try.prog 12 #[.pointer (some ⟨r, 0, none⟩)] W fun e w' => ∃ u v', e = .returned u ∧ NextIs W w' B r v l lost u v' := by
  have hlen := h.len
  have HR : Hid (RdIs W B r v l lost) := h
  have hrl : r < W.heap.size := h.lt r (by simp [rdS])
  clear h
  have hW1 : Below W.heap.size W (W.alloc (.cells #[.int .i64 0, .int .i64 0, .int .i64 0, .slice none 0 0, .string ⟨#[]⟩] 26)) := (Below.refl _ W).alloc (Nat.le_refl _) _
  have HI : Hid (NextInv W (W.alloc (.cells #[.int .i64 0, .int .i64 0, .int .i64 0, .slice none 0 0, .string ⟨#[]⟩] 26)) B r v l lost 0 v) :=
    ⟨Nat.zero_le _, ⟨by simpa using HR.out.below hW1, Mod.of_below hW1, fun g e => .inl e⟩, frAt_new _ _ _ _ _ _⟩
  clear hW1
  have hsk := skipL_le l
  go_enter Try.func12, Try.ntmps12
  go_wp2
  go_loopw [24] (fun _ wr => ∃ d v', NextInv W wr B r v l lost d v') (fun _ wr => (l.length + lost - lostOf wr r).toNat)
  case atStart => exact ⟨0, v, HI.out⟩
  case round =>
    obtain ⟨d, v', hI⟩ := hrel
    have HJ : Hid (NextInv W wr B r v l lost d v') := hI
    obtain ⟨H, G, hA, hr, h2⟩ := hI.rd.is.ex
    have hdl := hI.le
    have HA : Hid (RdAt wr B r v' H G (lost + d) ∧ H.drop G = l.drop d ∧ 2 * G ≤ H.length) := ⟨hA, hr, h2⟩
    obtain ⟨a, cap, e, hbs, _, _⟩ := hA.ob.bs
    subst e
    obtain ⟨a2, hsl, hbs2⟩ := hbs.from G hA.g
    rw [hr] at hbs2
    have HSL : Hid (∀ X, (Instr.slice 35 (.slice a H.length cap) (some (.int .i64 (G : Int))) none none).run Try.prog X = .ok (.slice a2 (H.length - G) (cap - G)) X) := hsl
    have HBS : Hid (BS wr a2 (cap - G) (l.drop d) ∧ H.length - G = (l.drop d).length) := ⟨hbs2, by rw [← hr, List.length_drop]⟩
    have HLO : Hid (lostOf wr r = lost + d) := lostOf_eq hA.c2
    clear hI hA hr h2 hbs hsl hbs2 HI HR
    go_wp2_with fail
    refine next_tail wr r H.length cap (H.length - G) (cap - G) G a a2 (l.drop d) _ _ _ _ _ _ _ _ _ _ _ _ _ _ _ _ _ _ _ _ _ _ _ _ _ _ _ _ _ _ _ _ _ _ _ _ _ _ _ _ _ _ _ _ _ HA.out.1.c0 HA.out.1.c1 HSL.out (fun X hX => read_v (HBS.out.1.below hX (Nat.le_refl _)) _ HBS.out.2 (by rw [List.length_drop]; unfold maxLen; omega)) (fun c a dd vv w h => by cases dd <;> exact h) ?_
    intro X x k fr t N E ga gn s hb hx hG hlo
    have HX : Hid (RdTo W X B r v (.slice a H.length cap) (l.drop d) (lost + d) ∧ FrAt X W.heap.size 0 0 0 (.slice none 0 0) (.string ⟨#[]⟩)) := by
      have q := HJ.out.rd
      refine ⟨⟨q.is.below hb, q.mod.trans (Mod.of_below hb), q.new⟩, HJ.out.res.below hb⟩
    have HG : Hid (GotV wr.heap.size X (l.drop d) k fr t N E ga gn s ∧ FrAt X x k fr t (.slice ga gn gn) (.string s) ∧ wr.heap.size ≤ x ∧ W.heap.size < wr.heap.size) := ⟨hG, hx, hlo, HJ.out.res.lt⟩
    clear hb hx hG hlo HSL HBS HA HJ
    rcases readE_vals (l.drop d) with hE | hE | hE
    · obtain rfl : E = 0 := HG.out.1.1.trans hE
      have hds : d = skipL l := by
        rcases Nat.lt_or_ge d (skipL l) with q | q
        · have := skip_at l d q; rw [hE] at this; cases this
        · omega
      have HDS : Hid (d = skipL l) := hds
      clear hds
      obtain ⟨_, ⟨q1, _⟩ | ⟨_, q1, q2, q3, q4, q5, q6, g, q7, q8, q9, q10⟩⟩ := HG.out.1
      · exact absurd rfl q1
      have hnl := (read_back _ hE).2.1
      have HQ : Hid (frOf (readF (l.drop d)) (.slice (some ⟨g, 0, none⟩) (readF (l.drop d)).zs.length (readF (l.drop d)).zs.length) = .agg #[.int .i64 k, .int .i64 fr, .int .i64 t, .slice ga gn gn, .string s] ∧ IntRow X (some ⟨g, 0, none⟩) (readF (l.drop d)).zs ∧ ZeroRow X g (readF (l.drop d)).zs.length ∧ wr.heap.size ≤ g) := by
        refine ⟨?_, by rw [← q7]; exact q8, by rw [← q4]; exact q9, q10⟩
        rw [q1, q2, q3, q4, q5, q7]
      have HE0 : Hid (readE (l.drop d) = 0) := hE
      subst q6
      clear hE q1 q2 q3 q4 q5 q7 q8 q9 q10
      go_wp2_with fail
      refine Calls.mono (drop_is HX.out.1.is (readN (l.drop d)) hnl (Nat.le_trans hB HX.out.1.mod.size)) ?_
      rintro e Y ⟨rfl, v2, hT⟩
      have HY : Hid (RdTo W Y B r v v2 ((l.drop d).drop (readN (l.drop d))) (lost + d) ∧ FrAt Y W.heap.size 0 0 0 (.slice none 0 0) (.string ⟨#[]⟩) ∧ FrAt Y x k fr t (.slice ga gn gn) (.string s) ∧ IntRow Y (some ⟨g, 0, none⟩) (readF (l.drop d)).zs ∧ ZeroRow Y g (readF (l.drop d)).zs.length ∧ W.heap.size < g) := by
        have w1 := HG.out.2.2
        have w2 := HQ.out.2.2.2
        refine ⟨HX.out.1.trans hT, HX.out.2.mod hT.mod (by simp; omega), HG.out.2.1.mod hT.mod (by simp; omega), HQ.out.2.1.mod hT.mod (by intro z hz; cases hz; simp; omega), HQ.out.2.2.1.mod hT.mod (by simp; omega), by omega⟩
      have u0 := HY.out.2.1.c0
      have u1 := HY.out.2.1.c1
      have u2 := HY.out.2.1.c2
      have u3 := HY.out.2.1.c3
      have u4 := HY.out.2.1.c4
      have uf := HY.out.2.1.f
      have x0 := HY.out.2.2.1.c0
      have x1 := HY.out.2.2.1.c1
      have x2 := HY.out.2.2.1.c2
      have x3 := HY.out.2.2.1.c3
      have x4 := HY.out.2.2.1.c4
      clear hT HX hnl
      go_wp2
      have hs := HY.out.2.1.stored k fr t (.slice ga gn gn) (.string s)
      have hm := frSet_mod Y W.heap.size k fr t (.slice ga gn gn) (.string s)
      have hT2 := HY.out.1.stored HY.out.2.1 hrl (Nat.le_refl _) k fr t (.slice ga gn gn) (.string s)
      have hg := HY.out.2.2.2.2.2
      have hin := HY.out.2.2.2.1.mod hm (by intro z hz; cases hz; simp; omega)
      have hzr := HY.out.2.2.2.2.1.mod hm (by simp; omega)
      unfold frSet at hs hT2 hin hzr
      have r0 := hs.c0
      have r1 := hs.c1
      have r2 := hs.c2
      have r3 := hs.c3
      have r4 := hs.c4
      refine bodyPost_ret (v := .tuple #[.agg #[.int .i64 k, .int .i64 fr, .int .i64 t, .slice ga gn gn, .string s], .bool true]) (by simp [results, Try.results12, go_sem, r0, r1, r2, r3, r4]) rfl ⟨_, v2, rfl, .inl ?_⟩
      rw [← HDS.out]
      exact ⟨HE0.out, g, by rw [HQ.out.1], hin, hzr, by omega, hT2⟩
    · obtain rfl : E = 4 := HG.out.1.1.trans hE
      have hds : d < skipL l := by
        rcases Nat.lt_or_ge d (skipL l) with q | q
        · exact q
        · have e : d = skipL l := by omega
          rw [e] at hE; exact absurd hE (skip_end l)
      have hne : 1 ≤ (l.drop d).length := by
        rcases Nat.eq_zero_or_pos (l.drop d).length with q | q
        · rw [List.eq_nil_of_length_eq_zero q, readE_nil] at hE; cases hE
        · exact q
      clear hE HG
      go_wp2_with fail
      refine Calls.mono (drop_is HX.out.1.is 1 hne (Nat.le_trans hB HX.out.1.mod.size)) ?_
      rintro e Y ⟨rfl, v2, hT⟩
      have HY : Hid (RdTo W Y B r v v2 (l.drop (d + 1)) (lost + d) ∧ FrAt Y W.heap.size 0 0 0 (.slice none 0 0) (.string ⟨#[]⟩)) := by
        have q := HX.out.1.trans hT
        rw [List.drop_drop] at q
        exact ⟨q, HX.out.2.mod hT.mod (by simp; omega)⟩
      have c2 := HY.out.1.is.c2.1
      have cf := HY.out.1.is.c2.2
      have hmin : lost + (d : Int) ≤ 9223372036854775806 := by omega
      have hmin2 : ¬ (9223372036854775806 : Int) < lost + (d : Int) := by omega
      clear hT HX hne
      go_wp2
      go_roundw
      case rel =>
        refine ⟨d + 1, v2, hds, ?_, ?_⟩
        · have q := HY.out.1
          have hm : Mod [r] Y (Y.setCell ⟨r, 2, none⟩ (.int .i64 (lost + (d : Int) + 1))) := (Mod.refl _ _).setCell _ _ _ (by simp)
          have e : lost + ((d + 1 : Nat) : Int) = lost + (d : Int) + 1 := by omega
          rw [e]
          exact ⟨q.is.set2 _, q.mod.trans hm, q.new⟩
        · have hm : Mod [r] Y (Y.setCell ⟨r, 2, none⟩ (.int .i64 (lost + (d : Int) + 1))) := (Mod.refl _ _).setCell _ _ _ (by simp)
          exact HY.out.2.mod hm (by simp; omega)
      case measure =>
        rw [HLO.out, lostOf_eq (World.cell?_setCell_same _ _ _ c2)]
        omega
    · obtain rfl : E = 5 := HG.out.1.1.trans hE
      have hds : d = skipL l := by
        rcases Nat.lt_or_ge d (skipL l) with q | q
        · have := skip_at l d q; rw [hE] at this; cases this
        · omega
      have HDS : Hid (d = skipL l ∧ readE (l.drop d) ≠ 0) := ⟨hds, by rw [hE]; decide⟩
      have u0 := HX.out.2.c0
      have u1 := HX.out.2.c1
      have u2 := HX.out.2.c2
      have u3 := HX.out.2.c3
      have u4 := HX.out.2.c4
      have uf := HX.out.2.f
      clear hE hds HG
      go_wp2
      have hs := HX.out.2.stored 0 0 0 (.slice none 0 0) (.string ⟨#[]⟩)
      have hT2 := HX.out.1.stored HX.out.2 hrl (Nat.le_refl _) 0 0 0 (.slice none 0 0) (.string ⟨#[]⟩)
      unfold frSet at hs hT2
      have r0 := hs.c0
      have r1 := hs.c1
      have r2 := hs.c2
      have r3 := hs.c3
      have r4 := hs.c4
      refine bodyPost_ret (v := .tuple #[zeroFr, .bool false]) (by simp [results, Try.results12, go_sem, r0, r1, r2, r3, r4]) rfl ⟨_, .slice a H.length cap, rfl, .inr ?_⟩
      rw [← HDS.out.1]
      exact ⟨HDS.out.2, rfl, hT2⟩
end Go.Proofs.Ytglkoedmonenoaa
