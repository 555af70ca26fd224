/-
  DERIVED. GIVEN WITH THE SEED: THE CARDS: each row of YtpojkaeclfgfkacDoorRows.lean that lists a variable, with what it lists TIED to the program's text (the seventh form; the later family's looks); each row that meets fmt, with fmt's text TOLD by the authors' own Lean function (tested against real Go, not proved from fmt's source: count such statements apart). THE CARD IS WHAT COUNTS. Prove the row's statement (the work); the ties are given (YtpojkaeclfgfkacDoorTie.lean); close each card by the builder's one call (the guide's Derived/Test/ToyasCard.lean, 'card_holds'). Laid BY PROGRAM, IN A SANDBOX (cutbox-door.mjs). By AI agents, Wed Nov 11 2026. No macro, syntax, notation, axiom, sorry.
-/
import Derived.Test.YtpojkaeclfgfkacDoorRows
import GoSem.ClaimSeven
namespace Go.Proofs.YtpojkaeclfgfkacDoor
namespace Rows

/-- THE TIED CARD OF 'picketlaw1.FixChanged'. -/
def fixChangedCard : Claim7 := { stood := { row := fixChangedRow, standIns := [], harness := (true, "5a71d17d5429de52478a39ffa1016e2de0001facb72d0015eb17b3afe3545923"), looks := false }, kinds := [], alts := [], laidByText := true, laidKinds := [.data, .data, .data], laidTests := true, laidLooks := .later }
def FixChangedCardSaid : Prop := Claim7.holds Tryd.pinned (.plain (OpenSpec.ofChange fixChangedSpec)) fixChangedCard

/-- THE SECOND FORM's CARD OF 'picketlaw1.FixChanged'. -/
def fixChangedUptoCard : Claim7 := { stood := { row := fixChangedUptoRow, standIns := [], harness := (true, "5a71d17d5429de52478a39ffa1016e2de0001facb72d0015eb17b3afe3545923"), looks := false }, kinds := [], alts := [], laidByText := true, laidKinds := [.data, .data, .data], laidTests := true, laidLooks := .later }
def FixChangedUptoCardSaid : Prop := Claim7.holds Tryd.pinned (.plain (OpenSpec.upto fixChangedSpec)) fixChangedUptoCard
end Rows
end Go.Proofs.YtpojkaeclfgfkacDoor
