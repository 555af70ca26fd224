/- SpanLattice: for every input the law returns true, and each argument reads afterwards as it read before. Conditions: none. -/
import Derived.Test.YthnhlgiibiephabRows
import Derived.Test.YthnhlgiibiephabSpLat
import Derived.ProofKit
import Derived.OpenShut
import Derived.ChangeOld
import Derived.Below
import Derived.Deep.DeepHandedRow
import Derived.Stop.LaidErr
import Derived.SizedLaws
import Derived.Lib.SmallJoins
namespace Go.Proofs.Ythnhlgiibiephab.spanLattice
open Go.ChangeShapes Go.WideShapes Go.ChangeAt Go.RowKit Go.Joins
set_option linter.unusedVariables false
set_option maxRecDepth 100000

theorem own : ownKnob Try.prog.godebug = none := by kernel_rfl
theorem laidOut : laidOutB Try.prog = true := by kernel_rfl
theorem cellsSpan : Try.prog.cellsOf 23 = 2 := by kernel_rfl

/-- What the walk gives, for every argument and every world that holds the tables. -/
theorem contract (H : Type) (enc : TypeId × Value → H) (W : World) (base : Nat) (args : Array Value) (ds gs : List (DataW H)) (before : List MemPlace)
    (hval : ∀ (j : Nat) t v, Try.f7.params[j]? = some t → args[j]? = some v → Value.okWide Try.prog W .any base t v)
    (hW : DataW.Whole enc Try.prog Try.f7.params.toList Rows.spanLatticeSpec.vars false W args.toList ds gs before) (hL : laidMetH Try.prog Rows.spanLatticeRow.laid W) (hsh : W.ShapedOpen Try.prog)
    (hre : (DataW.weightsEach Try.prog (Try.f7.params.toList ++ (OpenSpec.ofChange Rows.spanLatticeSpec).bare.plain.varTypes Try.prog) (ds ++ gs)).all (· ≤ reachBytes) = true) :
    Calls Try.prog 7 args W fun e W' => ∃ v, e = .returned v ∧ Rows.spanLatticeSpec.post enc Try.prog Try.f7 false true false false W args v W' := by
  have hW' := hW
  obtain ⟨p, q, hA0, hV, rfl, hfz, hnd⟩ := hW
  have hA : DataW.TrodAll enc Try.prog W 0 (fun _ => true) true Try.f7.params.toList args.toList ds p := hA0
  rw [Try.params7] at hA hval hre
  obtain ⟨v0, vs0, d0, ds0, p0, q0, hargs, rfl, rfl, h0, r0⟩ := trodAll_cons hA
  obtain ⟨v1, vs1, d1, ds1, p1, q1, rfl, rfl, rfl, h1, r1⟩ := trodAll_cons r0
  obtain ⟨v2, vs2, d2, ds2, p2, q2, rfl, rfl, rfl, h2, r2⟩ := trodAll_cons r1
  obtain ⟨v3, vs3, d3, ds3, p3, q3, rfl, rfl, rfl, h3, r3⟩ := trodAll_cons r2
  obtain ⟨rfl, rfl, rfl⟩ := trodAll_nil r3
  obtain rfl : args = #[v0, v1, v2, v3] := by cases args; simp_all
  obtain ⟨rfl, rfl⟩ := trodVars_none hV
  obtain ⟨c0, e0, y0, z0, m0, rfl, rfl, rfl, hy0, hz0⟩ := open_agg2 Try.underlying23 (by kernel_rfl) cellsSpan (hval 0 23 v0 rfl rfl) h0
  obtain ⟨lo0, el0, rfl, wl0⟩ := DataW.trod_int Try.underlying3 hy0
  obtain ⟨hi0, eh0, rfl, wh0⟩ := DataW.trod_int Try.underlying3 hz0
  simp at el0 eh0
  subst el0 eh0
  have bl0 := Go.Proofs.Ythnhlgiibiephab.bounds_int wl0
  have bh0 := Go.Proofs.Ythnhlgiibiephab.bounds_int wh0
  obtain ⟨c1, e1, y1, z1, m1, rfl, rfl, rfl, hy1, hz1⟩ := open_agg2 Try.underlying23 (by kernel_rfl) cellsSpan (hval 1 23 v1 rfl rfl) h1
  obtain ⟨lo1, el1, rfl, wl1⟩ := DataW.trod_int Try.underlying3 hy1
  obtain ⟨hi1, eh1, rfl, wh1⟩ := DataW.trod_int Try.underlying3 hz1
  simp at el1 eh1
  subst el1 eh1
  have bl1 := Go.Proofs.Ythnhlgiibiephab.bounds_int wl1
  have bh1 := Go.Proofs.Ythnhlgiibiephab.bounds_int wh1
  obtain ⟨c2, e2, y2, z2, m2, rfl, rfl, rfl, hy2, hz2⟩ := open_agg2 Try.underlying23 (by kernel_rfl) cellsSpan (hval 2 23 v2 rfl rfl) h2
  obtain ⟨lo2, el2, rfl, wl2⟩ := DataW.trod_int Try.underlying3 hy2
  obtain ⟨hi2, eh2, rfl, wh2⟩ := DataW.trod_int Try.underlying3 hz2
  simp at el2 eh2
  subst el2 eh2
  have bl2 := Go.Proofs.Ythnhlgiibiephab.bounds_int wl2
  have bh2 := Go.Proofs.Ythnhlgiibiephab.bounds_int wh2
  obtain ⟨a3, rfl, rfl, rfl, w3⟩ := open_int Try.underlying3 (hval 3 3 v3 rfl rfl) h3
  have b3 := Go.Proofs.Ythnhlgiibiephab.bounds_int w3
  clear hA0
  simp only [List.append_nil] at hW'
  refine (Go.Proofs.Ythnhlgiibiephab.lat_law lo0 hi0 lo1 hi1 lo2 hi2 a3 W bl0 bh0 bl1 bh1 bl2 bh2 b3).mono fun e W' ⟨he, bel⟩ => ?_
  subst he
  exact ⟨_, rfl, _, _, _, [], _, [], hW', trodAll_mk1 (shut_bool Try.underlying4 _), (trodAll_cons_mk (shut_agg2 (y0 := (.lit (.int .i64 lo0), [])) (y1 := (.lit (.int .i64 hi0), [])) Try.underlying23 (by kernel_rfl) cellsSpan ⟨1, by simp [DataW.trod, Try.underlying3, wl0]⟩ ⟨1, by simp [DataW.trod, Try.underlying3, wh0]⟩) (trodAll_cons_mk (shut_agg2 (y0 := (.lit (.int .i64 lo1), [])) (y1 := (.lit (.int .i64 hi1), [])) Try.underlying23 (by kernel_rfl) cellsSpan ⟨1, by simp [DataW.trod, Try.underlying3, wl1]⟩ ⟨1, by simp [DataW.trod, Try.underlying3, wh1]⟩) (trodAll_cons_mk (shut_agg2 (y0 := (.lit (.int .i64 lo2), [])) (y1 := (.lit (.int .i64 hi2), [])) Try.underlying23 (by kernel_rfl) cellsSpan ⟨1, by simp [DataW.trod, Try.underlying3, wl2]⟩ ⟨1, by simp [DataW.trod, Try.underlying3, wh2]⟩) (trodAll_cons_mk (shut_int Try.underlying3 w3) trodAll_mk0)))), rfl, bel.frame _, fun h => by cases h⟩

/-- A world for the witness. -/
noncomputable def laidWorld (os : Os) : World := World.holding Try.prog os ⟨#[], #[], []⟩
theorem laid_met (os : Os) : laidMet Try.prog Rows.spanLatticeRow.laid ((laidWorld os).forCall (fun _ _ => 0) ⟨#[], #[.agg #[.int .i64 0, .int .i64 0], .agg #[.int .i64 0, .int .i64 0], .agg #[.int .i64 0, .int .i64 0], .int .i64 0], []⟩).memory :=
  laidMet_of_run' 8 (by kernel_rfl) (by kernel_rfl)
theorem reads (os : Os) {H : Type} (enc : TypeId × Value → H) : ∃ ds places, DataW.whole enc Try.prog ((laidWorld os).forCall (fun _ _ => 0) ⟨#[], #[.agg #[.int .i64 0, .int .i64 0], .agg #[.int .i64 0, .int .i64 0], .agg #[.int .i64 0, .int .i64 0], .int .i64 0], []⟩).memory Try.f7.params.toList Rows.spanLatticeSpec.vars false (#[Value.agg #[.int .i64 0, .int .i64 0], Value.agg #[.int .i64 0, .int .i64 0], Value.agg #[.int .i64 0, .int .i64 0], Value.int .i64 0]).toList 8 = some (ds, [], places) :=
  ⟨[.agg [.lit (.int .i64 0), .lit (.int .i64 0)], .agg [.lit (.int .i64 0), .lit (.int .i64 0)], .agg [.lit (.int .i64 0), .lit (.int .i64 0)], .lit (.int .i64 0)], [], by kernel_rfl⟩

set_option maxRecDepth 100000 in
theorem lifted (os : Os) (started : os.Started) (H : Type) (enc : TypeId × Value → H) (F : Stop.Interp) :
    ReturnsInHanded {} Try.checked os 7 .any ((OpenSpec.ofChange Rows.spanLatticeSpec).preRow enc Try.prog Try.f7 Rows.spanLatticeRow.domain false Rows.spanLatticeRow.laid) (((OpenSpec.ofChange Rows.spanLatticeSpec).at F).post enc Try.prog Try.f7 false true false false) := by
  obtain ⟨ds0, places, hx⟩ := reads os enc
  refine returnsInHanded_of_row (C := Try.checked) (s := OpenSpec.ofChange Rows.spanLatticeSpec) own started (by kernel_rfl) Try.func7
    (witness_row_at (enc := enc) (C := Try.checked) false (laidWorld os) #[.agg #[.int .i64 0, .int .i64 0], .agg #[.int .i64 0, .int .i64 0], .agg #[.int .i64 0, .int .i64 0], .int .i64 0] rfl (by kernel_rfl) (by kernel_rfl) (by kernel_rfl)
      (OpenSpec.preRow_of_cond 8 hx (by kernel_rfl) (fun k hk => by cases hk) (by kernel_rfl) (laid_met os))) ?_
  intro W base args ds gs before hval hW _ _ hre hL hsh _
  exact contract H enc W base args ds gs before hval hW hL hsh hre

theorem said : Rows.SpanLatticeSaid :=
  OpenClaim.holds_of_cond 7 Try.f7 rfl rfl rfl rfl rfl rfl rfl ⟨rfl, rfl, rfl, rfl, rfl⟩ rfl rfl rfl rfl rfl (by kernel_rfl) Try.func7 (by kernel_rfl)
    (of_decide_eq_true (by kernel_rfl)) (by unfold Func.isWrapper; first | (rw [if_pos (by decide +kernel)]; kernel_rfl) | (rw [if_neg (by decide +kernel)]; exact ⟨rfl, rfl⟩))
    (fun os started H enc _ F => by rw [OpenClaim.pre_eq_preRow]; exact lifted os started H enc F)

end Go.Proofs.Ythnhlgiibiephab.spanLattice
namespace Go.Proofs.Ythnhlgiibiephab
theorem SpanLattice_holds : Rows.SpanLatticeSaid := spanLattice.said
end Go.Proofs.Ythnhlgiibiephab
