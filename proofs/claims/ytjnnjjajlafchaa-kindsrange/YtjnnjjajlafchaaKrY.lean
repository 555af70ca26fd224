/- KindsRange, whatever came in. Conditions: what came in. -/
import Derived.Test.YtjnnjjajlafchaaKrX
import Derived.Test.YtjnnjjajlafchaaKrI
import Derived.Test.YtjnnjjajlafchaaKnO
namespace Go.Proofs.Ytjnnjjajlafchaa
open Go.RowKit
set_option linter.unusedVariables false
set_option maxRecDepth 100000

theorem fit_of {l : List Sig} (hb : ∀ y ∈ l, y.name.size ≤ 9223372036854775807 ∧ y.unit.size ≤ 9223372036854775807 ∧ B64 y.lo ∧ B64 y.hi) (h : (namesE l).1 = 0) : SigsFit l := by
  intro x hx
  obtain ⟨k, hk, rfl⟩ := List.getElem_of_mem hx
  have q := (addE_name ((names_ok h).2 k hk)).2
  rw [List.getD_eq_getElem?_getD, List.getElem?_eq_getElem hk, Option.getD_some] at q
  exact ⟨by omega, (hb _ hx).2.2.1, (hb _ hx).2.2.2⟩
theorem kr_frame (nm : ByteArray) (c s : Int) (a : Option Addr) (cap : Nat) (l : List Sig) (pa : Option Addr) (pc : Nat) (ps : List PrV) (na : Option Addr) (nc : Nat) (n : List Nd) (ra : Option Addr) (rc : Nat) (at' : List Int) (W : World)
    (hsr : SigRow W a l) (hsg : ∀ y ∈ l, y.name.size ≤ 9223372036854775807 ∧ y.unit.size ≤ 9223372036854775807 ∧ B64 y.lo ∧ B64 y.hi) (hpr : RowOf prC 2 W pa ps) (hpk : ∀ y ∈ ps, PrKnown W y) (hpl : ps.length ≤ 9223372036854775807)
    (hn : NodeRow W na n) (hm : n.length ≤ 9223372036854775807) (hcap : n.length ≤ nc) (hk : NodesKnown n) (hra : IntRow W ra at') :
    Calls Try.prog 5 #[.agg #[.string nm, .int .i64 c, .int .i64 s, .slice a l.length cap, .slice pa ps.length pc], .slice na n.length nc, .slice ra at'.length rc] W fun e W' => e = .returned (.bool true) ∧ Below W.heap.size W W' := by
  have hb0 : ∀ o, Below W.heap.size W (W.alloc o) := fun o => (Below.refl _ _).alloc (Nat.le_refl _) _
  have HL : Hid (∀ X, Below W.heap.size W X → Calls Try.prog 20 #[.agg #[.string nm, .int .i64 c, .int .i64 s, .slice a l.length cap, .slice pa ps.length pc]] X fun e W' => SomeBool e ∧ Below X.heap.size X W') :=
    fun X hX => light7_any nm c s a l.length cap pa pc ps X (hpr.below prC_len hX) (fun x hx => (hpk x hx).below hX) hpl
  by_cases hbig : 16 < l.length
  · exact kr_bad nm c s a l.length cap pa ps.length pc na n.length nc ra at'.length rc 2 ⟨#[]⟩ W (new_long nm c s a cap l _ _ hbig) rfl rfl HL
  · have hN := new_any nm c s a cap l pa pc ps (W.alloc (.cells #[.string nm, .int .i64 c, .int .i64 s, .slice a l.length cap, .slice pa ps.length pc] 42)) (hsr.below (hb0 _)) (by omega) (fun x hx => (hsg x hx).1) (hpr.below prC_len (hb0 _)) (fun x hx => (hpk x hx).below (hb0 _)) hpl
    by_cases hz : (newR l ps).1 = 0
    · have hnz : (namesE l).1 = 0 := by
        by_cases h0 : (namesE l).1 = 0
        · exact h0
        · unfold newR at hz; rw [if_pos h0] at hz; exact hz
      refine kr_good nm c s a cap l pa ps.length pc na nc n ra rc at' W (hN.mono fun e W' ⟨hb, h⟩ => ?_) HL hsr (fit_of hsg hnz) (by omega) hn hcap hk hm hra
      rcases h with ⟨h1, _⟩ | ⟨_, _, W1, q, p, v, qs, hd, he, hi, _⟩
      · exact absurd hz h1
      · exact ⟨q, p, he, hi.sh, hb⟩
    · refine kr_bad nm c s a l.length cap pa ps.length pc na n.length nc ra at'.length rc (newR l ps).1 (newR l ps).2 W (hN.mono fun e W' ⟨hb, h⟩ => ?_) (by simpa using hz) (by simpa using hz) HL
      rcases h with ⟨_, he⟩ | ⟨h1, _⟩
      · exact ⟨he, hb⟩
      · exact absurd h1 hz
theorem int_in (W : World) {H : Type} {enc : TypeId × Value → H} (fuel : Nat) (cs : List Value) (x : DataW H × List MemPlace) (hl : cs.length = 1) (h : DataW.trod enc Try.prog W 0 (fun _ => true) true fuel 3 cs = some x) : ∃ y : Int, cs = intC y ∧ True := by
  match cs, hl with
  | [c0], _ =>
    obtain ⟨t, e, _, w⟩ := DataW.trod_int Try.underlying3 h
    simp at e
    subst e
    exact ⟨t, rfl, trivial⟩
theorem open_fixes {H : Type} {enc : TypeId × Value → H} {W : World} {fuel : Nat} {a : Option Addr} {len cap : Nat} {x : DataW H × List MemPlace} (h : DataW.trod enc Try.prog W 0 (fun _ => true) true fuel 62 [.slice a len cap] = some x) :
    ∃ l : List Int, l.length = len ∧ IntRow W a l := by
  obtain ⟨l, h1, h2, _⟩ := open_rows intC (fun _ => True) (by omega) Try.underlying62 cells_int1 (int_in W) h
  refine ⟨l, h1, fun i hi => ?_⟩
  obtain ⟨b, off, e, hj⟩ := h2 i hi
  refine ⟨b, off, e, ?_⟩
  have := hj 0 (by omega)
  rw [show (default : Int) = 0 from rfl] at this
  simpa [intC] using this
end Go.Proofs.Ytjnnjjajlafchaa
