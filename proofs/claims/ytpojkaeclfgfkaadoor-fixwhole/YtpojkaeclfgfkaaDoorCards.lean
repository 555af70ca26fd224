/-
  DERIVED. GIVEN WITH THE SEED: THE CARDS: each row of YtpojkaeclfgfkaaDoorRows.lean that lists a variable, with what it lists TIED to the program's text (the seventh form; the later family's looks); each row that meets fmt, with fmt's text TOLD by the authors' own Lean function (tested against real Go, not proved from fmt's source: count such statements apart). THE CARD IS WHAT COUNTS. Prove the row's statement (the work); the ties are given (YtpojkaeclfgfkaaDoorTie.lean); close each card by the builder's one call (the guide's Derived/Test/ToyasCard.lean, 'card_holds'). Laid BY PROGRAM, IN A SANDBOX (cutbox-door.mjs). By AI agents, Wed Nov 11 2026. No macro, syntax, notation, axiom, sorry.
-/
import Derived.Test.YtpojkaeclfgfkaaDoorRows
import GoSem.ClaimSeven
namespace Go.Proofs.YtpojkaeclfgfkaaDoor
namespace Rows

/-- THE TIED CARD OF 'picketlaw1.FixReckons'. -/
def fixReckonsCard : Claim7 := { stood := { row := fixReckonsRow, standIns := [], harness := (true, "d9441db9b04de659ad8cab60ea3d5a670d958cb16433b34d79bc67957bd24394"), looks := false }, kinds := [], alts := [], laidByText := true, laidKinds := [.data, .data, .data], laidTests := true, laidLooks := .later }
def FixReckonsCardSaid : Prop := Claim7.holds Tryd.pinned (.plain (OpenSpec.ofChange fixReckonsSpec)) fixReckonsCard

/-- THE TIED CARD OF 'picketlaw1.FixPicks'. -/
def fixPicksCard : Claim7 := { stood := { row := fixPicksRow, standIns := [], harness := (true, "d9441db9b04de659ad8cab60ea3d5a670d958cb16433b34d79bc67957bd24394"), looks := false }, kinds := [], alts := [], laidByText := true, laidKinds := [.data, .data, .data], laidTests := true, laidLooks := .later }
def FixPicksCardSaid : Prop := Claim7.holds Tryd.pinned (.plain (OpenSpec.ofChange fixPicksSpec)) fixPicksCard

/-- THE TIED CARD OF 'picketlaw1.FixTexts'. -/
def fixTextsCard : Claim7 := { stood := { row := fixTextsRow, standIns := [], harness := (true, "d9441db9b04de659ad8cab60ea3d5a670d958cb16433b34d79bc67957bd24394"), looks := false }, kinds := [], alts := [], laidByText := true, laidKinds := [.data, .data, .data], laidTests := true, laidLooks := .later }
def FixTextsCardSaid : Prop := Claim7.holds Tryd.pinned (.plain (OpenSpec.ofChange fixTextsSpec)) fixTextsCard

/-- THE TIED CARD OF 'picketlaw1.FixBytes'. -/
def fixBytesCard : Claim7 := { stood := { row := fixBytesRow, standIns := [], harness := (true, "d9441db9b04de659ad8cab60ea3d5a670d958cb16433b34d79bc67957bd24394"), looks := false }, kinds := [], alts := [], laidByText := true, laidKinds := [.data, .data, .data], laidTests := true, laidLooks := .later }
def FixBytesCardSaid : Prop := Claim7.holds Tryd.pinned (.plain (OpenSpec.ofChange fixBytesSpec)) fixBytesCard

/-- THE TIED CARD OF 'picketlaw1.FixWhole'. -/
def fixWholeCard : Claim7 := { stood := { row := fixWholeRow, standIns := [], harness := (true, "d9441db9b04de659ad8cab60ea3d5a670d958cb16433b34d79bc67957bd24394"), looks := false }, kinds := [], alts := [], laidByText := true, laidKinds := [.data, .data, .data], laidTests := true, laidLooks := .later }
def FixWholeCardSaid : Prop := Claim7.holds Tryd.pinned (.plain (OpenSpec.ofChange fixWholeSpec)) fixWholeCard

/-- THE TIED CARD OF 'picketlaw1.FixKept'. -/
def fixKeptCard : Claim7 := { stood := { row := fixKeptRow, standIns := [], harness := (true, "d9441db9b04de659ad8cab60ea3d5a670d958cb16433b34d79bc67957bd24394"), looks := false }, kinds := [], alts := [], laidByText := true, laidKinds := [.data, .data, .data], laidTests := true, laidLooks := .later }
def FixKeptCardSaid : Prop := Claim7.holds Tryd.pinned (.plain (OpenSpec.ofChange fixKeptSpec)) fixKeptCard

/-- THE SECOND FORM's CARD OF 'picketlaw1.FixReckons'. -/
def fixReckonsUptoCard : Claim7 := { stood := { row := fixReckonsUptoRow, standIns := [], harness := (true, "d9441db9b04de659ad8cab60ea3d5a670d958cb16433b34d79bc67957bd24394"), looks := false }, kinds := [], alts := [], laidByText := true, laidKinds := [.data, .data, .data], laidTests := true, laidLooks := .later }
def FixReckonsUptoCardSaid : Prop := Claim7.holds Tryd.pinned (.plain (OpenSpec.upto fixReckonsSpec)) fixReckonsUptoCard

/-- THE SECOND FORM's CARD OF 'picketlaw1.FixPicks'. -/
def fixPicksUptoCard : Claim7 := { stood := { row := fixPicksUptoRow, standIns := [], harness := (true, "d9441db9b04de659ad8cab60ea3d5a670d958cb16433b34d79bc67957bd24394"), looks := false }, kinds := [], alts := [], laidByText := true, laidKinds := [.data, .data, .data], laidTests := true, laidLooks := .later }
def FixPicksUptoCardSaid : Prop := Claim7.holds Tryd.pinned (.plain (OpenSpec.upto fixPicksSpec)) fixPicksUptoCard

/-- THE SECOND FORM's CARD OF 'picketlaw1.FixTexts'. -/
def fixTextsUptoCard : Claim7 := { stood := { row := fixTextsUptoRow, standIns := [], harness := (true, "d9441db9b04de659ad8cab60ea3d5a670d958cb16433b34d79bc67957bd24394"), looks := false }, kinds := [], alts := [], laidByText := true, laidKinds := [.data, .data, .data], laidTests := true, laidLooks := .later }
def FixTextsUptoCardSaid : Prop := Claim7.holds Tryd.pinned (.plain (OpenSpec.upto fixTextsSpec)) fixTextsUptoCard

/-- THE SECOND FORM's CARD OF 'picketlaw1.FixBytes'. -/
def fixBytesUptoCard : Claim7 := { stood := { row := fixBytesUptoRow, standIns := [], harness := (true, "d9441db9b04de659ad8cab60ea3d5a670d958cb16433b34d79bc67957bd24394"), looks := false }, kinds := [], alts := [], laidByText := true, laidKinds := [.data, .data, .data], laidTests := true, laidLooks := .later }
def FixBytesUptoCardSaid : Prop := Claim7.holds Tryd.pinned (.plain (OpenSpec.upto fixBytesSpec)) fixBytesUptoCard

/-- THE SECOND FORM's CARD OF 'picketlaw1.FixWhole'. -/
def fixWholeUptoCard : Claim7 := { stood := { row := fixWholeUptoRow, standIns := [], harness := (true, "d9441db9b04de659ad8cab60ea3d5a670d958cb16433b34d79bc67957bd24394"), looks := false }, kinds := [], alts := [], laidByText := true, laidKinds := [.data, .data, .data], laidTests := true, laidLooks := .later }
def FixWholeUptoCardSaid : Prop := Claim7.holds Tryd.pinned (.plain (OpenSpec.upto fixWholeSpec)) fixWholeUptoCard

/-- THE SECOND FORM's CARD OF 'picketlaw1.FixKept'. -/
def fixKeptUptoCard : Claim7 := { stood := { row := fixKeptUptoRow, standIns := [], harness := (true, "d9441db9b04de659ad8cab60ea3d5a670d958cb16433b34d79bc67957bd24394"), looks := false }, kinds := [], alts := [], laidByText := true, laidKinds := [.data, .data, .data], laidTests := true, laidLooks := .later }
def FixKeptUptoCardSaid : Prop := Claim7.holds Tryd.pinned (.plain (OpenSpec.upto fixKeptSpec)) fixKeptUptoCard
end Rows
end Go.Proofs.YtpojkaeclfgfkaaDoor
