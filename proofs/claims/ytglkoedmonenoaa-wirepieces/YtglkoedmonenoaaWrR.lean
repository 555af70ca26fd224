/- Wire's Feed. Conditions: how many bytes there are. -/
import Derived.Test.YtglkoedmonenoaaWrQ
namespace Go.Proofs.Ytglkoedmonenoaa
open Go.RowKit
set_option linter.unusedVariables false
set_option maxRecDepth 100000

/-- A slice's texts in memory. -/
def StrRow (w : World) (a : Option Addr) (ss : List ByteArray) : Prop := ∀ i, i < ss.length → ∃ b off, a = some ⟨b, off, none⟩ ∧ w.cell? ⟨b, off + i, none⟩ = some (.string (ss.getD i default))
theorem StrRow.mod {S : List Nat} {w w' : World} {a : Option Addr} {ss : List ByteArray} (h : StrRow w a ss) (k : Mod S w w') (ho : 0 < ss.length → Off a S) : StrRow w' a ss := by
  intro i hi
  obtain ⟨b, off, rfl, hc⟩ := h i hi
  exact ⟨b, off, rfl, k.cell hc (ho (by omega) _ rfl)⟩
/-- All the texts, one behind the other. -/
def joinS (ss : List ByteArray) : List UInt8 := ss.flatMap fun s => s.data.toList
theorem joinS_succ (ss : List ByteArray) (i : Nat) (h : i < ss.length) : joinS (ss.take (i + 1)) = joinS (ss.take i) ++ (ss.getD i default).data.toList := by
  unfold joinS
  rw [List.take_add_one, List.getElem?_eq_getElem h, List.getD_eq_getElem?_getD, List.getElem?_eq_getElem h]
  simp only [Option.toList_some, List.flatMap_append, List.flatMap_cons, List.flatMap_nil, List.append_nil, Option.getD_some]
theorem joinS_le (ss : List ByteArray) (i : Nat) (h : i < ss.length) : (joinS (ss.take i)).length + (ss.getD i default).size ≤ (joinS ss).length := by
  have e : joinS ss = joinS (ss.take (i + 1)) ++ joinS (ss.drop (i + 1)) := by
    unfold joinS; rw [← List.flatMap_append, List.take_append_drop]
  rw [e, joinS_succ ss i h, List.length_append, List.length_append]
  simp
/-- A block that is none of a Reader's. -/
def Away (W : World) (B b : Nat) : Prop := b < B ∨ ∃ u, W.cell? ⟨b, 0, none⟩ = some u ∧ (∀ c, u ≠ .int .u8 c) ∧ ∀ a n c, u ≠ .slice a n c
/-- Nothing of others has turned. -/
structure KeepA (B : Nat) (W W' : World) : Prop where
  os : W'.os = W.os
  tape : W'.tape = W.tape
  output : W'.output = W.output
  size : W.heap.size ≤ W'.heap.size
  block : ∀ b, b < W.heap.size → Away W B b → W'.heap[b]? = W.heap[b]?
theorem Away.of_block {W W' : World} {B b : Nat} (h : Away W B b) (e : W'.heap[b]? = W.heap[b]?) : Away W' B b := by
  rcases h with h | ⟨u, h1, h2⟩
  · exact .inl h
  · exact .inr ⟨u, (World.cell?_of_block (a := ⟨b, 0, none⟩) e).trans h1, h2⟩
theorem KeepA.refl (B : Nat) (W : World) : KeepA B W W := ⟨rfl, rfl, rfl, Nat.le_refl _, fun _ _ _ => rfl⟩
theorem KeepA.trans {B : Nat} {x y z : World} (h : KeepA B x y) (k : KeepA B y z) : KeepA B x z :=
  ⟨k.os.trans h.os, k.tape.trans h.tape, k.output.trans h.output, Nat.le_trans h.size k.size, fun b hb ha => by
    have e := h.block b hb ha
    exact (k.block b (Nat.lt_of_lt_of_le hb h.size) (ha.of_block e)).trans e⟩
theorem KeepA.of_below {B : Nat} {W W' : World} (h : Below W.heap.size W W') : KeepA B W W' := ⟨h.os, h.tape, h.output, h.size, fun b hb _ => h.block b hb⟩
theorem KeepA.below {B : Nat} {W W' : World} (h : KeepA B W W') (hB : B ≤ W.heap.size) : Below B W W' := ⟨h.os, h.tape, h.output, h.size, fun b hb => h.block b (by omega) (.inl hb)⟩
theorem KeepA.cell {B : Nat} {W W' : World} (h : KeepA B W W') {b i : Nat} {v : Value} (ha : Away W B b) (hv : W.cell? ⟨b, i, none⟩ = some v) : W'.cell? ⟨b, i, none⟩ = some v :=
  (World.cell?_of_block (a := ⟨b, i, none⟩) (h.block b (World.block_lt_of_cell? W _ hv) ha)).trans hv
theorem RdIs.away {W : World} {B r : Nat} {v : Value} {l : List UInt8} {lost : Int} (h : RdIs W B r v l lost) {b : Nat} (ha : Away W B b) : b ∉ rdS r v := by
  obtain ⟨H, G, h1, _⟩ := h.ex
  rcases ha with ha | ⟨u, q1, q2, q3⟩
  · intro hi; have := h1.lows b hi; omega
  · simp only [rdS, List.mem_cons, Option.mem_toList, not_or]
    refine ⟨fun e => ?_, h.ne q1 q2⟩
    subst e
    rw [h1.c0] at q1
    obtain ⟨a, cap, rfl, _⟩ := h1.ob.bs
    exact q3 _ _ _ (Option.some.inj q1).symm
theorem KeepA.of_mod {W W' : World} {B r : Nat} {v : Value} {l : List UInt8} {lost : Int} {S : List Nat} (h : RdIs W B r v l lost) (m : Mod S W W') (hS : ∀ i ∈ S, i ∈ rdS r v) : KeepA B W W' :=
  ⟨m.os, m.tape, m.output, m.size, fun b hb ha => m.block b hb fun hs => h.away ha (hS b hs)⟩
/-- One text behind what is held. -/
theorem fed_one {W : World} {B r : Nat} {v : Value} {l : List UInt8} {lost : Int} (h : RdIs W B r v l lost) (hB : B ≤ W.heap.size) (s : ByteArray) (hl : l.length + s.size ≤ 200000000) :
    ∃ a len cap a' len' cap' X, v = .slice a len cap ∧ W.cell? ⟨r, 0, none⟩ = some (.slice a len cap) ∧ (Builtin.append_ #[35, 9] 35 #[.slice a len cap, .string s]).run Try.prog W = .ok (.slice a' len' cap') X ∧ X.cell? ⟨r, 0, none⟩ = some (.slice a len cap) ∧ (∀ i, X.frozen? ⟨r, i, none⟩ = false) ∧
      RdIs (X.setCell ⟨r, 0, none⟩ (.slice a' len' cap')) B r (.slice a' len' cap') (l ++ s.data.toList) lost ∧ KeepA B W (X.setCell ⟨r, 0, none⟩ (.slice a' len' cap')) := by
  obtain ⟨H, G, hA, hd, h2⟩ := h.ex
  have hg := hA.g
  have hHl : H.length ≤ 2 * l.length := by rw [← hd, List.length_drop]; omega
  obtain ⟨v', X, hr, ho, hgr, hnil⟩ := hA.ob.textM s (by omega) hB
  obtain ⟨a, cap, rfl, _⟩ := hA.ob.bs
  obtain ⟨a', cap', rfl, _⟩ := ho.bs
  have hS : ∀ k, (Value.slice a H.length cap).ownBlock = some k → k ∈ (Value.slice a H.length cap).ownBlock.toList := fun k e => by simp [e]
  have m := Mod.of_grown hgr _ hS
  have hr0 : r ∉ (Value.slice a H.length cap).ownBlock.toList := by simp; exact hA.ne
  have c0 := m.cell hA.c0 hr0
  have cf : ∀ i, X.frozen? ⟨r, i, none⟩ = false := fun i => (m.frozen hA.lt hr0).trans (hA.f i)
  refine ⟨a, H.length, cap, a', _, cap', X, rfl, hA.c0, hr, c0, cf, ⟨⟨H ++ s.data.toList, G, ?_, ?_, ?_⟩⟩, ?_⟩
  · refine RdAt.set0 c0 (m.cell hA.c1 hr0) (m.cell hA.c2 hr0) cf (fun c e => by cases e) ho ?_ ?_ ?_ hA.lo
    · intro e
      have e1 := List.append_eq_nil_iff.1 e
      have e2 : s.size = 0 := by have := congrArg List.length e1.2; simpa using this
      exact hnil.2 ⟨hA.nil e1.1, e2⟩
    · simp; omega
    · simp; omega
  · rw [List.drop_append_of_le_length hg, hd]
  · simp; omega
  · have m1 : Mod (rdS r (Value.slice a H.length cap)) W X := m.mono (fun i hi => by simp only [rdS, List.mem_cons]; exact .inr hi)
    exact KeepA.of_mod h (m1.setCell r 0 _ (by simp [rdS])) (fun i hi => hi)
/-- The Feed's round. -/
structure FeedInv (W wr : World) (B r : Nat) (l : List UInt8) (lost : Int) (ss : List ByteArray) (i : Nat) (v : Value) : Prop where
  is : RdIs wr B r v (l ++ joinS (ss.take i)) lost
  keep : KeepA B W wr
set_option maxHeartbeats 1000000 in
theorem feed_any {W : World} {B r : Nat} {v : Value} {l : List UInt8} {lost : Int} (h : RdIs W B r v l lost) (hB : B ≤ W.heap.size) (a : Option Addr) (ss : List ByteArray) (cap : Nat) (hs : StrRow W a ss) (ho : ∀ x, a = some x → Away W B x.block) (hn : ss.length ≤ 1000000) (hl : l.length + (joinS ss).length ≤ 200000000) :
    Calls Try.prog 11 #[.pointer (some ⟨r, 0, none⟩), .slice a ss.length cap] W fun e w' => e = .returned (.tuple #[]) ∧ ∃ v', RdIs w' B r v' (l ++ joinS ss) lost ∧ KeepA B W w' := by
  have HI : Hid (FeedInv W W B r l lost ss 0 v) := ⟨by simpa [joinS] using h, KeepA.refl _ _⟩
  have HS : Hid (StrRow W a ss ∧ ∀ x, a = some x → Away W B x.block) := ⟨hs, ho⟩
  have HL : Hid (∀ i, i < ss.length → (l ++ joinS (ss.take i)).length + (ss.getD i default).size ≤ 200000000) := fun i hi => by
    have := joinS_le ss i hi; rw [List.length_append]; omega
  clear h hs ho hl
  go_enter Try.func11, Try.ntmps11
  go_wp2
  go_loopw [10] (fun iv wr => ∃ i v', i ≤ ss.length ∧ iv = .int .i64 (i : Nat) ∧ FeedInv W wr B r l lost ss i v') (fun iv _ => ss.length - (intOf iv).toNat)
  case atStart => exact ⟨0, v, Nat.zero_le _, rfl, HI.out⟩
  case round =>
    obtain ⟨i, v', hi, rfl, hI⟩ := hrel
    have HJ : Hid (FeedInv W wr B r l lost ss i v') := hI
    clear hI HI
    by_cases hlt : i < ss.length
    · obtain ⟨b, off, e, hc⟩ := HS.out.1 i hlt
      subst e
      have hc' := HJ.out.keep.cell (HS.out.2 _ rfl) hc
      obtain ⟨a1, len1, cap1, a2, len2, cap2, X, e, k0, hr, x0, xf, hR, hK⟩ := fed_one HJ.out.is (Nat.le_trans hB HJ.out.keep.size) (ss.getD i default) (HL.out i hlt)
      subst e
      have HX : Hid ((Builtin.append_ #[35, 9] 35 #[.slice a1 len1 cap1, .string (ss.getD i default)]).run Try.prog wr = .ok (.slice a2 len2 cap2) X) := hr
      have HN : Hid (FeedInv W (X.setCell ⟨r, 0, none⟩ (.slice a2 len2 cap2)) B r l lost ss (i + 1) (.slice a2 len2 cap2)) := by
        refine ⟨?_, HJ.out.keep.trans hK⟩
        rw [joinS_succ ss i hlt, ← List.append_assoc]; exact hR
      clear hr hR hK hc HJ HL HS
      generalize ss.getD i default = s at *
      go_wp2_with (at_builtin; go_must (refine append_text (by rfl) _ _ (by rfl) (by rfl) _ _ _ _ (by rfl) (by rfl) HX.out ?_))
      go_roundw
      case rel => exact ⟨i + 1, _, by omega, by go_num, HN.out⟩
      case measure => simp [intOf]; omega
    · have HN : Hid (RdIs wr B r v' (l ++ joinS ss) lost ∧ KeepA B W wr) := by
        have q := HJ.out.is
        rw [List.take_of_length_le (by omega)] at q
        exact ⟨q, HJ.out.keep⟩
      clear HJ HL HS
      go_wp2
      first | go_end0 | refine bodyPost_ret (results_none rfl _ _ _) rfl ?_
      exact ⟨rfl, _, HN.out⟩
end Go.Proofs.Ytglkoedmonenoaa
