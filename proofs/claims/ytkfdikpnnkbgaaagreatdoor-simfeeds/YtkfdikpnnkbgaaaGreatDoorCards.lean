/-
  DERIVED. GIVEN WITH THE SEED: THE CARDS: each row of YtkfdikpnnkbgaaaGreatDoorRows.lean that lists a variable, with what it lists TIED to the program's text (the seventh form; the later family's looks); each row that meets fmt, with fmt's text TOLD by the authors' own Lean function (tested against real Go, not proved from fmt's source: count such statements apart). THE CARD IS WHAT COUNTS. Prove the row's statement (the work); the ties are given (YtkfdikpnnkbgaaaGreatDoorTie.lean); close each card by the builder's one call (the guide's Derived/Test/ToyasCard.lean, 'card_holds'). Laid BY PROGRAM, IN A SANDBOX (cutbox-door.mjs). By AI agents, Wed Nov 11 2026. No macro, syntax, notation, axiom, sorry.
-/
import Derived.Test.YtkfdikpnnkbgaaaGreatDoorRows
import GoSem.ClaimSeven
namespace Go.Proofs.YtkfdikpnnkbgaaaGreatDoor
namespace Rows

/-- THE TIED CARD OF 'tidepolelaw14.GramSound'. -/
def gramSoundCard : Claim7 := { stood := { row := gramSoundRow, standIns := [], harness := (true, "ef3c675e2b453218b2cfdd631e54a3679f15d8d605703719c5c59a144de9cf6c"), looks := false }, kinds := [], alts := [], laidByText := true, laidKinds := [.data], laidTests := true, laidLooks := .later }
def GramSoundCardSaid : Prop := Claim7.holds Tryz.pinned (.plain (OpenSpec.ofChange gramSoundSpec)) gramSoundCard

/-- THE TIED CARD OF 'tidepolelaw12.SimQuotes'. -/
def simQuotesCard : Claim7 := { stood := { row := simQuotesRow, standIns := [], harness := (true, "ef3c675e2b453218b2cfdd631e54a3679f15d8d605703719c5c59a144de9cf6c"), looks := false }, kinds := [], alts := [], laidByText := true, laidKinds := [.data], laidTests := true, laidLooks := .later }
def SimQuotesCardSaid : Prop := Claim7.holds Tryz.pinned (.plain (OpenSpec.ofChange simQuotesSpec)) simQuotesCard

/-- THE TIED CARD OF 'tidepolelaw12.SimFeeds'. -/
def simFeedsCard : Claim7 := { stood := { row := simFeedsRow, standIns := [], harness := (true, "ef3c675e2b453218b2cfdd631e54a3679f15d8d605703719c5c59a144de9cf6c"), looks := false }, kinds := [], alts := [], laidByText := true, laidKinds := [.data], laidTests := true, laidLooks := .later }
def SimFeedsCardSaid : Prop := Claim7.holds Tryz.pinned (.plain (OpenSpec.ofChange simFeedsSpec)) simFeedsCard

/-- THE SECOND FORM's CARD OF 'tidepolelaw14.GramSound'. -/
def gramSoundUptoCard : Claim7 := { stood := { row := gramSoundUptoRow, standIns := [], harness := (true, "ef3c675e2b453218b2cfdd631e54a3679f15d8d605703719c5c59a144de9cf6c"), looks := false }, kinds := [], alts := [], laidByText := true, laidKinds := [.data], laidTests := true, laidLooks := .later }
def GramSoundUptoCardSaid : Prop := Claim7.holds Tryz.pinned (.plain (OpenSpec.upto gramSoundSpec)) gramSoundUptoCard

/-- THE SECOND FORM's CARD OF 'tidepolelaw12.SimQuotes'. -/
def simQuotesUptoCard : Claim7 := { stood := { row := simQuotesUptoRow, standIns := [], harness := (true, "ef3c675e2b453218b2cfdd631e54a3679f15d8d605703719c5c59a144de9cf6c"), looks := false }, kinds := [], alts := [], laidByText := true, laidKinds := [.data], laidTests := true, laidLooks := .later }
def SimQuotesUptoCardSaid : Prop := Claim7.holds Tryz.pinned (.plain (OpenSpec.upto simQuotesSpec)) simQuotesUptoCard

/-- THE SECOND FORM's CARD OF 'tidepolelaw12.SimFeeds'. -/
def simFeedsUptoCard : Claim7 := { stood := { row := simFeedsUptoRow, standIns := [], harness := (true, "ef3c675e2b453218b2cfdd631e54a3679f15d8d605703719c5c59a144de9cf6c"), looks := false }, kinds := [], alts := [], laidByText := true, laidKinds := [.data], laidTests := true, laidLooks := .later }
def SimFeedsUptoCardSaid : Prop := Claim7.holds Tryz.pinned (.plain (OpenSpec.upto simFeedsSpec)) simFeedsUptoCard
end Rows
end Go.Proofs.YtkfdikpnnkbgaaaGreatDoor
