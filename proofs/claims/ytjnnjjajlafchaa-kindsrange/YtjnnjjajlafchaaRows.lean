/-
  No cell of these rows narrows 'for every input' (looked for: loops, veiled, ifaces, maps, wideKeys, modest, calm, conditions, laid).
  DERIVED. THE GIVEN ROWS OF THIS SEAT. 4 by the template 'for every input the law returns true; each argument reads behind the call as it read before'; 0 by the template 'total and deterministic' (their statements: YtjnnjjajlafchaaTotals.lean).
  GIVEN WITH THE SEED: the statements are not yours to turn. If you find one false, say at which input.
  Laid BY PROGRAM, IN A SANDBOX (cutbox-rows.mjs): the forced cells as the released guide's own fill.sh prints them over the translation 0fe1925a03abafcf… (all of the seat's roots in one cut). By AI agents, Wed Nov 11 2026. No macro, syntax, notation, axiom, sorry.
-/
import Derived.Test.YtjnnjjajlafchaaChecked
import GoSem.Claim
import GoSem.ClaimJoined
import GoSem.ClaimMapViews
import Derived.JoinedTies
import Derived.KernelRfl
namespace Go.Proofs.Ytjnnjjajlafchaa
/- THE CELL 'sum', in the pinned program and in every row, IS THE sha256 OF THE DUMP (.gsa) THAT YtjnnjjajlafchaaProg.lean LOADS. Nothing in Lean hashes anything: it is a label: what it is worth is what the hold of that sum in a sandbox is worth. -/
noncomputable def Try.pinned : Pinned := { name := "ytjnnjjajlafchaa", sum := "0fe1925a03abafcf03b94b656f482401b2923ad50c730fd1234aec455b5b58a6", checked := Try.checked }
namespace Rows
def none {H : Type} : Left H := { results := [], args := [] }

/-- 'picketlaw7.KindsNames': WHATEVER THE INPUT: true; the input reads as it did. -/
def kindsNamesSpec : ChangeSpec := { name := "kindsNames", fn := fun _ => fun
  | [d1, d2, d3] => { results := [.lit (.bool true)], args := [d1, d2, d3] }
  | _ => none }
def kindsNamesRow : OpenClaim := { program := "ytjnnjjajlafchaa", sum := "0fe1925a03abafcf03b94b656f482401b2923ad50c730fd1234aec455b5b58a6", func := "picket/picketlaw7.KindsNames", spec := "kindsNames", unfollowed := true, recurses := true, apart := false }
def KindsNamesSaid : Prop := kindsNamesRow.holds Try.pinned (OpenSpec.ofChange kindsNamesSpec)

/-- ITS FALSE NEIGHBOUR: 'it returns false'. Refute it at one input. -/
def kindsNamesWrong : ChangeSpec := { name := "kindsNames", fn := fun _ => fun
  | [d1, d2, d3] => { results := [.lit (.bool false)], args := [d1, d2, d3] }
  | _ => none }
def KindsNamesWrongFalsely : Prop := kindsNamesRow.holds Try.pinned (OpenSpec.ofChange kindsNamesWrong)

/-- 'picketlaw7.KindsNone': WHATEVER THE INPUT: true; the input reads as it did. -/
def kindsNoneSpec : ChangeSpec := { name := "kindsNone", fn := fun _ => fun
  | [d1, d2, d3] => { results := [.lit (.bool true)], args := [d1, d2, d3] }
  | _ => none }
def kindsNoneRow : OpenClaim := { program := "ytjnnjjajlafchaa", sum := "0fe1925a03abafcf03b94b656f482401b2923ad50c730fd1234aec455b5b58a6", func := "picket/picketlaw7.KindsNone", spec := "kindsNone", unfollowed := true, recurses := true, apart := false }
def KindsNoneSaid : Prop := kindsNoneRow.holds Try.pinned (OpenSpec.ofChange kindsNoneSpec)

/-- ITS FALSE NEIGHBOUR: 'it returns false'. Refute it at one input. -/
def kindsNoneWrong : ChangeSpec := { name := "kindsNone", fn := fun _ => fun
  | [d1, d2, d3] => { results := [.lit (.bool false)], args := [d1, d2, d3] }
  | _ => none }
def KindsNoneWrongFalsely : Prop := kindsNoneRow.holds Try.pinned (OpenSpec.ofChange kindsNoneWrong)

/-- 'picketlaw7.KindsRange': WHATEVER THE INPUT: true; the input reads as it did. -/
def kindsRangeSpec : ChangeSpec := { name := "kindsRange", fn := fun _ => fun
  | [d1, d2, d3] => { results := [.lit (.bool true)], args := [d1, d2, d3] }
  | _ => none }
def kindsRangeRow : OpenClaim := { program := "ytjnnjjajlafchaa", sum := "0fe1925a03abafcf03b94b656f482401b2923ad50c730fd1234aec455b5b58a6", func := "picket/picketlaw7.KindsRange", spec := "kindsRange", unfollowed := true, recurses := true, apart := false }
def KindsRangeSaid : Prop := kindsRangeRow.holds Try.pinned (OpenSpec.ofChange kindsRangeSpec)

/-- ITS FALSE NEIGHBOUR: 'it returns false'. Refute it at one input. -/
def kindsRangeWrong : ChangeSpec := { name := "kindsRange", fn := fun _ => fun
  | [d1, d2, d3] => { results := [.lit (.bool false)], args := [d1, d2, d3] }
  | _ => none }
def KindsRangeWrongFalsely : Prop := kindsRangeRow.holds Try.pinned (OpenSpec.ofChange kindsRangeWrong)

/-- 'picketlaw7.KindsFinds': WHATEVER THE INPUT: true; the input reads as it did. -/
def kindsFindsSpec : ChangeSpec := { name := "kindsFinds", fn := fun _ => fun
  | [d1, d2] => { results := [.lit (.bool true)], args := [d1, d2] }
  | _ => none }
def kindsFindsRow : OpenClaim := { program := "ytjnnjjajlafchaa", sum := "0fe1925a03abafcf03b94b656f482401b2923ad50c730fd1234aec455b5b58a6", func := "picket/picketlaw7.KindsFinds", spec := "kindsFinds", unfollowed := true, recurses := true, apart := false }
def KindsFindsSaid : Prop := kindsFindsRow.holds Try.pinned (OpenSpec.ofChange kindsFindsSpec)

/-- ITS FALSE NEIGHBOUR: 'it returns false'. Refute it at one input. -/
def kindsFindsWrong : ChangeSpec := { name := "kindsFinds", fn := fun _ => fun
  | [d1, d2] => { results := [.lit (.bool false)], args := [d1, d2] }
  | _ => none }
def KindsFindsWrongFalsely : Prop := kindsFindsRow.holds Try.pinned (OpenSpec.ofChange kindsFindsWrong)

/- THE SECOND FORM. 'bulk': how many values and letters a reading holds, each counted each time it is reached (what is shared counts as often as it is met; a slice's spare places count too). A statement '..UptoSaid' is the law's where the arguments, and the package variables that the reading takes, are together of bulk at most 1048576: NARROWER than '..Said'. Prove '..Said' where nothing that the law and all that it calls make is longer than what came in: it says more and counts as full. Else prove '..UptoSaid'. A law counts once. -/
mutual
def uptoBulk {H : Type} : DataW H → Nat
  | .lit (.string bytes) => bytes.length + 1
  | .lit _ => 1
  | .nil => 1
  | .ptr d => uptoBulk d + 1
  | .slice elems spare => uptoBulkAll elems + uptoBulkAll spare + 1
  | .agg parts => uptoBulkAll parts + 1
  | .iface _ d => uptoBulk d + 1
  | .map entries => uptoBulkEntries entries + 1
  | .held _ => 1
def uptoBulkAll {H : Type} : List (DataW H) → Nat
  | [] => 0
  | d :: r => uptoBulk d + uptoBulkAll r
def uptoBulkEntries {H : Type} : List (Lit × DataW H) → Nat
  | [] => 0
  | x :: r => uptoBulkEntry x + uptoBulkEntries r
def uptoBulkEntry {H : Type} : Lit × DataW H → Nat
  | (.string bytes, d) => bytes.length + uptoBulk d + 1
  | (_, d) => uptoBulk d + 1
 end
def uptoSmall : (H : Type) → List (DataW H) → Bool := fun _ ds => decide (uptoBulkAll ds ≤ 1048576)
def OpenSpec.upto (s : _root_.Go.ChangeSpec) : _root_.Go.OpenSpec := { _root_.Go.OpenSpec.ofChange s with cond := some uptoSmall }

/-- 'picketlaw7.KindsNames', WHERE WHAT IT READS IS OF BULK AT MOST 1048576: true; the input reads as it did. -/
def kindsNamesUptoRow : OpenClaim := { program := "ytjnnjjajlafchaa", sum := "0fe1925a03abafcf03b94b656f482401b2923ad50c730fd1234aec455b5b58a6", func := "picket/picketlaw7.KindsNames", spec := "kindsNames", unfollowed := true, recurses := true, apart := false, narrowed := true }
def KindsNamesUptoSaid : Prop := kindsNamesUptoRow.holds Try.pinned (OpenSpec.upto kindsNamesSpec)

/-- 'picketlaw7.KindsNone', WHERE WHAT IT READS IS OF BULK AT MOST 1048576: true; the input reads as it did. -/
def kindsNoneUptoRow : OpenClaim := { program := "ytjnnjjajlafchaa", sum := "0fe1925a03abafcf03b94b656f482401b2923ad50c730fd1234aec455b5b58a6", func := "picket/picketlaw7.KindsNone", spec := "kindsNone", unfollowed := true, recurses := true, apart := false, narrowed := true }
def KindsNoneUptoSaid : Prop := kindsNoneUptoRow.holds Try.pinned (OpenSpec.upto kindsNoneSpec)

/-- 'picketlaw7.KindsRange', WHERE WHAT IT READS IS OF BULK AT MOST 1048576: true; the input reads as it did. -/
def kindsRangeUptoRow : OpenClaim := { program := "ytjnnjjajlafchaa", sum := "0fe1925a03abafcf03b94b656f482401b2923ad50c730fd1234aec455b5b58a6", func := "picket/picketlaw7.KindsRange", spec := "kindsRange", unfollowed := true, recurses := true, apart := false, narrowed := true }
def KindsRangeUptoSaid : Prop := kindsRangeUptoRow.holds Try.pinned (OpenSpec.upto kindsRangeSpec)

/-- 'picketlaw7.KindsFinds', WHERE WHAT IT READS IS OF BULK AT MOST 1048576: true; the input reads as it did. -/
def kindsFindsUptoRow : OpenClaim := { program := "ytjnnjjajlafchaa", sum := "0fe1925a03abafcf03b94b656f482401b2923ad50c730fd1234aec455b5b58a6", func := "picket/picketlaw7.KindsFinds", spec := "kindsFinds", unfollowed := true, recurses := true, apart := false, narrowed := true }
def KindsFindsUptoSaid : Prop := kindsFindsUptoRow.holds Try.pinned (OpenSpec.upto kindsFindsSpec)

end Rows
end Go.Proofs.Ytjnnjjajlafchaa
