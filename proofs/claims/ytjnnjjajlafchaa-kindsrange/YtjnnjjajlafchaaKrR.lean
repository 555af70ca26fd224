/- Two rows that grow side by side; picketlaw7's below. Conditions: there. -/
import Derived.Test.YtjnnjjajlafchaaKrC
import Derived.Test.YtjnnjjajlafchaaKrM
import Derived.Test.YtjnnjjajlafchaaBz3
namespace Go.Proofs.Ytjnnjjajlafchaa
open Go.RowKit
set_option linter.unusedVariables false
set_option maxRecDepth 100000

def strC (s : ByteArray) : List Value := [.string s]
def intC (z : Int) : List Value := [.int .i64 z]
theorem strC_len (x : ByteArray) : (strC x).length = 1 := rfl
theorem intC_len (x : Int) : (intC x).length = 1 := rfl
theorem strC_one (x : ByteArray) : ∀ u ∈ strC x, u.oneCell' = true := by simp [strC, Value.oneCell']
theorem intC_one (x : Int) : ∀ u ∈ intC x, u.oneCell' = true := by simp [intC, Value.oneCell']
theorem infoStr : (Try.prog.info? 9).map (fun i => (i.zero, i.size, i.bytes)) = some (some (.string ⟨#[]⟩), 1, 16) := by kernel_rfl
theorem two_step {X X' : Type} {C : X → List Value} {C' : X' → List Value} {e e' : TypeId} {bytes : Nat} (hC : ∀ x, (C x).length = 1) (h1 : ∀ x, ∀ u ∈ C x, u.oneCell' = true) {t : TypeId} {z : Value} (ht : Try.prog.underlying t = some (.slice e))
    (hinfo : (Try.prog.info? e).map (fun i => (i.zero, i.size, i.bytes)) = some (some z, 1, bytes)) (hzs : z.cells.size = 1) (hbytes : bytes ≤ 16) (W5 W : World) (v v' : Value) (l : List X) (l' : List X') (h : Own C e 1 W W5.heap.size v l) (h' : Own C' e' 1 W W5.heap.size v' l')
    (ap : ∀ g, v.ownBlock = some g → v'.ownBlock ≠ some g) (hb : Below W5.heap.size W5 W) (x : X) (u : Value) (hu : C x = [u]) (hl : l.length ≤ 1000) :
    ∃ v2 Y, (Builtin.append_ #[t, t] t #[v, .slice (some ⟨W.heap.size, 0, none⟩) 1 1]).run Try.prog (W.alloc (.cells #[u] e)) = .ok v2 Y ∧ Own C e 1 Y W5.heap.size v2 (l ++ [x]) ∧ Own C' e' 1 Y W5.heap.size v' l' ∧ (∀ g, v2.ownBlock = some g → v'.ownBlock ≠ some g) ∧ Below W5.heap.size W5 Y := by
  have ba : Below W.heap.size W (W.alloc (.cells #[u] e)) := (Below.refl _ _).alloc (Nat.le_refl _) _
  obtain ⟨v2, Y, k1, k2, k3, k4⟩ := Own.append hC h1 ht hinfo hzs (by omega) (W.alloc (.cells #[u] e)) W5.heap.size v l (h.below ba) x W.heap.size
    (fun j hj => by obtain rfl : j = 0 := by omega
                    rw [hu]; simp [go_sem]) (by unfold maxLen; omega) (by have : (l.length + 1) * bytes ≤ 1001 * 16 := Nat.mul_le_mul (by omega) hbytes
                                                                          omega) (by have := hb.size; simp; omega)
  refine ⟨v2, Y, k1, k2, ?_, ?_, ?_⟩
  · refine (h'.below ba).mod (Mod.grown k3) fun g hg hm => ?_
    simp only [Option.mem_toList] at hm
    exact ap g hm hg
  · intro g hg e
    rcases k4 with k4 | k4
    · exact ap g (by rw [← k4]; exact hg) e
    · rw [k4] at hg
      cases hg
      have := (h'.lt _ e).2
      simp at this
      omega
  · refine (hb.alloc hb.size _).trans ((Mod.grown k3).belowOf (by have := hb.size; simp; omega) fun g hg => ?_)
    simp only [Option.mem_toList] at hg
    exact (h.lt g hg).1
structure Rows (W5 : World) (xs : List ByteArray) (ys : List Int) (nv rv : Value) (wr : World) : Prop where
  below : Below W5.heap.size W5 wr
  names : Own strC 9 1 wr W5.heap.size nv xs
  row : Own intC 3 1 wr W5.heap.size rv ys
  apart : ∀ g, nv.ownBlock = some g → rv.ownBlock ≠ some g
theorem Rows.start (W5 : World) : Rows W5 [] [] (.slice none 0 0) (.slice none 0 0) W5 := ⟨Below.refl _ _, Own.nil _ _ _ _ _, Own.nil _ _ _ _ _, by simp [Value.ownBlock]⟩
theorem Rows.stays {W5 : World} {xs : List ByteArray} {ys : List Int} {nv rv : Value} {wr wr' : World} (h : Rows W5 xs ys nv rv wr) (b : Below wr.heap.size wr wr') : Rows W5 xs ys nv rv wr' :=
  ⟨h.below.trans (b.mono h.below.size), h.names.below b, h.row.below b, h.apart⟩
theorem Rows.name {W5 : World} {xs : List ByteArray} {ys : List Int} {nv rv : Value} {wr : World} (h : Rows W5 xs ys nv rv wr) (x : ByteArray) (hl : xs.length ≤ 1000) :
    ∃ v2 Y, (Builtin.append_ #[64, 64] 64 #[nv, .slice (some ⟨wr.heap.size, 0, none⟩) 1 1]).run Try.prog (wr.alloc (.cells #[.string x] 9)) = .ok v2 Y ∧ Rows W5 (xs ++ [x]) ys v2 rv Y := by
  obtain ⟨v2, Y, k1, k2, k3, k4, k5⟩ := two_step strC_len strC_one Try.underlying64 infoStr rfl (by omega) W5 wr nv rv xs ys h.names h.row h.apart h.below x _ rfl hl
  exact ⟨v2, Y, k1, k5, k2, k3, k4⟩
theorem Rows.num {W5 : World} {xs : List ByteArray} {ys : List Int} {nv rv : Value} {wr : World} (h : Rows W5 xs ys nv rv wr) (x : Int) (hl : ys.length ≤ 1000) :
    ∃ v2 Y, (Builtin.append_ #[62, 62] 62 #[rv, .slice (some ⟨wr.heap.size, 0, none⟩) 1 1]).run Try.prog (wr.alloc (.cells #[.int .i64 x] 3)) = .ok v2 Y ∧ Rows W5 xs (ys ++ [x]) nv v2 Y := by
  obtain ⟨v2, Y, k1, k2, k3, k4, k5⟩ := two_step intC_len intC_one Try.underlying62 infoInt rfl (by omega) W5 wr rv nv ys xs h.row h.names (fun g hg e => h.apart g e hg) h.below x _ rfl hl
  exact ⟨v2, Y, k1, k5, k3, k2, fun g hg e => k4 g e hg⟩
theorem Rows.read {W5 : World} {xs : List ByteArray} {ys : List Int} {nv rv : Value} {wr : World} (h : Rows W5 xs ys nv rv wr) :
    ∃ na nc ra rc, nv = .slice na xs.length nc ∧ rv = .slice ra ys.length rc ∧ StrRow wr na xs ∧ IntRow wr ra ys := by
  obtain ⟨na, nc, e1, _, _, k1⟩ := h.names.sl strC_len ⟨#[]⟩
  obtain ⟨ra, rc, e2, _, _, k2⟩ := h.row.sl intC_len 0
  refine ⟨na, nc, ra, rc, e1, e2, fun i hi => ?_, fun i hi => ?_⟩
  · obtain ⟨g, e, _, _, hj⟩ := k1 i hi
    refine ⟨g, 0, e, ?_⟩
    have := hj 0 (by omega); simpa [strC] using this
  · obtain ⟨g, e, _, _, hj⟩ := k2 i hi
    refine ⟨g, 0, e, ?_⟩
    have := hj 0 (by omega); simpa [intC] using this
def downN (z : Int) : Int := if -9223372036854775808 < z then z - 1 else z
set_option maxHeartbeats 2000000 in
theorem below_any (op nn fr to num : Int) (ta : Option Addr) (tl tc : Nat) (W : World) (hn : B64 num) :
    Calls Try.prog 22 #[.agg #[.int .i64 op, .int .i64 nn, .int .i64 fr, .int .i64 to, .slice ta tl tc, .int .i64 num]] W
      fun e W' => e = .returned (.agg #[.int .i64 op, .int .i64 nn, .int .i64 fr, .int .i64 to, .slice ta tl tc, .int .i64 (downN num)]) ∧ Below W.heap.size W W' := by
  obtain ⟨b1, b2⟩ := hn
  by_cases h : -9223372036854775808 < num
  · have hd : downN num = num - 1 := by unfold downN; rw [if_pos h]
    rw [hd]
    clear hd
    go_enter Try.func22, Try.ntmps22
    go_wp2
    refine bodyPost_ret (v := .agg #[.int .i64 op, .int .i64 nn, .int .i64 fr, .int .i64 to, .slice ta tl tc, .int .i64 (num - 1)]) (by simp [results, Try.results22, go_sem]) rfl ⟨rfl, ?_⟩
    repeat (first | exact Below.refl _ _ | refine Below.setCell ?_ (by simp) _ | refine Below.alloc ?_ (by simp) _)
  · have hd : downN num = num := by unfold downN; rw [if_neg h]
    rw [hd]
    clear hd
    go_enter Try.func22, Try.ntmps22
    go_wp2
    refine bodyPost_ret (v := .agg #[.int .i64 op, .int .i64 nn, .int .i64 fr, .int .i64 to, .slice ta tl tc, .int .i64 num]) (by simp [results, Try.results22, go_sem]) rfl ⟨rfl, ?_⟩
    repeat (first | exact Below.refl _ _ | refine Below.setCell ?_ (by simp) _ | refine Below.alloc ?_ (by simp) _)
end Go.Proofs.Ytjnnjjajlafchaa
