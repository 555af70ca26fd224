/- Rows of one's own that grow by a row that is there. -/
import Derived.Test.YtjnnjjajlafchaaOpn
namespace Go.Proofs.Ytjnnjjajlafchaa
open Go.RowKit
set_option linter.unusedVariables false
set_option maxRecDepth 100000

theorem RowOf.cells {X : Type} [Inhabited X] {C : X → List Value} {c : Nat} {W : World} {ad : Addr} {xs : List X} (hC : ∀ x, (C x).length = c) (hc0 : 0 < c) (h : RowOf C c W (some ad) xs) (j : Nat) (u : Value) (hj : (cellsL C xs)[j]? = some u) : W.cell? (ad.add j) = some u := by
  have hlen : j < xs.length * c := by rw [← cellsL_len hC xs]; exact (List.getElem?_eq_some_iff.1 hj).1
  have hq : j / c < xs.length := Nat.div_lt_of_lt_mul (by rw [Nat.mul_comm]; exact hlen)
  obtain ⟨b, off, e, hk⟩ := h (j / c) hq
  cases e
  have hr : j % c < c := Nat.mod_lt _ hc0
  have hjj : j / c * c + j % c = j := Nat.div_add_mod' j c
  have h1 := hk (j % c) hr
  have h2 := cellsL_at hC default xs (j / c) hq (j % c) hr
  rw [hjj] at h2
  rw [addr_addO, show off + j = off + j / c * c + j % c by omega, h1, ← h2, hj]
/-- 'append(v, xs...)'. -/
theorem Own.appendRow {X : Type} [Inhabited X] {C : X → List Value} {e : TypeId} {c bytes : Nat} (hC : ∀ x, (C x).length = c) (h1 : ∀ x, ∀ u ∈ C x, u.oneCell' = true) {t : TypeId} {z : Value} (ht : Try.prog.underlying t = some (.slice e))
    (hinfo : (Try.prog.info? e).map (fun i => (i.zero, i.size, i.bytes)) = some (some z, c, bytes)) (hzs : z.cells.size = c) (hc0 : 0 < c) (W : World) (B : Nat) (v : Value) (l : List X) (h : Own C e c W B v l) (a : Option Addr) (xs : List X) (cap : Nat) (ha : a = none → cap = 0)
    (hr : RowOf C c W a xs) (hn : l.length + xs.length ≤ maxLen) (hb : (l.length + xs.length) * bytes ≤ 140737488355328) (hB : B ≤ W.heap.size) :
    ∃ v' w', (Builtin.append_ #[t, t] t #[v, .slice a xs.length cap]).run Try.prog W = .ok v' w' ∧ Own C e c w' B v' (l ++ xs) ∧ W.grownBy w' v.ownBlock ∧ (v'.ownBlock = v.ownBlock ∨ v'.ownBlock = some W.heap.size) := by
  obtain ⟨i0, hi, hz0, hz1, hz2⟩ := info_parts hinfo
  cases a with
  | none =>
    have h0 : xs = [] := by
      cases xs with
      | nil => rfl
      | cons z zs => obtain ⟨b, off, e, _⟩ := hr 0 (by simp); cases e
    subst h0
    obtain rfl := ha rfl
    refine ⟨v, W, run_append_owned_none (P := Try.prog) (w := W) B t t e i0 c ht hi v l.length _ h, by simpa using h, ⟨rfl, rfl, rfl, Nat.le_refl _, fun _ _ _ => rfl⟩, .inl rfl⟩
  | some ad =>
    obtain ⟨v', w', k1, k2, k3, _, k4⟩ := run_append_own_at (P := Try.prog) (w := W) B t t e i0 _ c bytes ht hi hz0 hz1 hz2 hzs hc0 v l.length _ h ad xs.length cap (cellsL C xs) (cellsL_len hC xs)
      (fun j u hj => hr.cells hC hc0 j u hj) (fun u hu => by
        simp only [cellsL, List.mem_flatMap] at hu
        obtain ⟨x, _, hx⟩ := hu
        exact h1 x u hx) hn hb hB
    refine ⟨v', w', k1, ?_, k3, k4⟩
    unfold Own
    rw [cellsL_append, List.length_append]; exact k2
end Go.Proofs.Ytjnnjjajlafchaa
