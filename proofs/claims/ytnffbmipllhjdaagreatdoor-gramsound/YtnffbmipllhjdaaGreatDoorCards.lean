/-
  DERIVED. GIVEN WITH THE SEED: THE CARDS: each row of YtnffbmipllhjdaaGreatDoorRows.lean that lists a variable, with what it lists TIED to the program's text (the seventh form; the later family's looks); each row that meets fmt, with fmt's text TOLD by the authors' own Lean function (tested against real Go, not proved from fmt's source: count such statements apart). THE CARD IS WHAT COUNTS. Prove the row's statement (the work); the ties are given (YtnffbmipllhjdaaGreatDoorTie.lean); close each card by the builder's one call (the guide's Derived/Test/ToyasCard.lean, 'card_holds'). Laid BY PROGRAM, IN A SANDBOX (cutbox-door.mjs). By AI agents, Wed Nov 11 2026. No macro, syntax, notation, axiom, sorry.
-/
import Derived.Test.YtnffbmipllhjdaaGreatDoorRows
import GoSem.ClaimSeven
namespace Go.Proofs.YtnffbmipllhjdaaGreatDoor
namespace Rows

/-- THE TIED CARD OF 'tidepolelaw14.GramTells'. -/
def gramTellsCard : Claim7 := { stood := { row := gramTellsRow, standIns := [], harness := (true, "a3cc72cc7aaaebc9f505b4c7ab18e7dfdbd011806d24af76f842dbeee482982d"), looks := false }, kinds := [], alts := [], laidByText := true, laidKinds := [.data], laidTests := true, laidLooks := .later }
def GramTellsCardSaid : Prop := Claim7.holds Tryz.pinned (.plain (OpenSpec.ofChange gramTellsSpec)) gramTellsCard

/-- THE TIED CARD OF 'tidepolelaw14.GramFits'. -/
def gramFitsCard : Claim7 := { stood := { row := gramFitsRow, standIns := [], harness := (true, "a3cc72cc7aaaebc9f505b4c7ab18e7dfdbd011806d24af76f842dbeee482982d"), looks := false }, kinds := [], alts := [], laidByText := true, laidKinds := [.data], laidTests := true, laidLooks := .later }
def GramFitsCardSaid : Prop := Claim7.holds Tryz.pinned (.plain (OpenSpec.ofChange gramFitsSpec)) gramFitsCard

/-- THE TIED CARD OF 'tidepolelaw14.GramSound'. -/
def gramSoundCard : Claim7 := { stood := { row := gramSoundRow, standIns := [], harness := (true, "a3cc72cc7aaaebc9f505b4c7ab18e7dfdbd011806d24af76f842dbeee482982d"), looks := false }, kinds := [], alts := [], laidByText := true, laidKinds := [.data], laidTests := true, laidLooks := .later }
def GramSoundCardSaid : Prop := Claim7.holds Tryz.pinned (.plain (OpenSpec.ofChange gramSoundSpec)) gramSoundCard

/-- THE TIED CARD OF 'tidepolelaw14.GramLists'. -/
def gramListsCard : Claim7 := { stood := { row := gramListsRow, standIns := [], harness := (true, "a3cc72cc7aaaebc9f505b4c7ab18e7dfdbd011806d24af76f842dbeee482982d"), looks := false }, kinds := [], alts := [], laidByText := true, laidKinds := [.data], laidTests := true, laidLooks := .later }
def GramListsCardSaid : Prop := Claim7.holds Tryz.pinned (.plain (OpenSpec.ofChange gramListsSpec)) gramListsCard

/-- THE TIED CARD OF 'tidepolelaw14.GramQuotes'. -/
def gramQuotesCard : Claim7 := { stood := { row := gramQuotesRow, standIns := [], harness := (true, "a3cc72cc7aaaebc9f505b4c7ab18e7dfdbd011806d24af76f842dbeee482982d"), looks := false }, kinds := [], alts := [], laidByText := true, laidKinds := [.data], laidTests := true, laidLooks := .later }
def GramQuotesCardSaid : Prop := Claim7.holds Tryz.pinned (.plain (OpenSpec.ofChange gramQuotesSpec)) gramQuotesCard

/-- THE SECOND FORM's CARD OF 'tidepolelaw14.GramTells'. -/
def gramTellsUptoCard : Claim7 := { stood := { row := gramTellsUptoRow, standIns := [], harness := (true, "a3cc72cc7aaaebc9f505b4c7ab18e7dfdbd011806d24af76f842dbeee482982d"), looks := false }, kinds := [], alts := [], laidByText := true, laidKinds := [.data], laidTests := true, laidLooks := .later }
def GramTellsUptoCardSaid : Prop := Claim7.holds Tryz.pinned (.plain (OpenSpec.upto gramTellsSpec)) gramTellsUptoCard

/-- THE SECOND FORM's CARD OF 'tidepolelaw14.GramFits'. -/
def gramFitsUptoCard : Claim7 := { stood := { row := gramFitsUptoRow, standIns := [], harness := (true, "a3cc72cc7aaaebc9f505b4c7ab18e7dfdbd011806d24af76f842dbeee482982d"), looks := false }, kinds := [], alts := [], laidByText := true, laidKinds := [.data], laidTests := true, laidLooks := .later }
def GramFitsUptoCardSaid : Prop := Claim7.holds Tryz.pinned (.plain (OpenSpec.upto gramFitsSpec)) gramFitsUptoCard

/-- THE SECOND FORM's CARD OF 'tidepolelaw14.GramSound'. -/
def gramSoundUptoCard : Claim7 := { stood := { row := gramSoundUptoRow, standIns := [], harness := (true, "a3cc72cc7aaaebc9f505b4c7ab18e7dfdbd011806d24af76f842dbeee482982d"), looks := false }, kinds := [], alts := [], laidByText := true, laidKinds := [.data], laidTests := true, laidLooks := .later }
def GramSoundUptoCardSaid : Prop := Claim7.holds Tryz.pinned (.plain (OpenSpec.upto gramSoundSpec)) gramSoundUptoCard

/-- THE SECOND FORM's CARD OF 'tidepolelaw14.GramLists'. -/
def gramListsUptoCard : Claim7 := { stood := { row := gramListsUptoRow, standIns := [], harness := (true, "a3cc72cc7aaaebc9f505b4c7ab18e7dfdbd011806d24af76f842dbeee482982d"), looks := false }, kinds := [], alts := [], laidByText := true, laidKinds := [.data], laidTests := true, laidLooks := .later }
def GramListsUptoCardSaid : Prop := Claim7.holds Tryz.pinned (.plain (OpenSpec.upto gramListsSpec)) gramListsUptoCard

/-- THE SECOND FORM's CARD OF 'tidepolelaw14.GramQuotes'. -/
def gramQuotesUptoCard : Claim7 := { stood := { row := gramQuotesUptoRow, standIns := [], harness := (true, "a3cc72cc7aaaebc9f505b4c7ab18e7dfdbd011806d24af76f842dbeee482982d"), looks := false }, kinds := [], alts := [], laidByText := true, laidKinds := [.data], laidTests := true, laidLooks := .later }
def GramQuotesUptoCardSaid : Prop := Claim7.holds Tryz.pinned (.plain (OpenSpec.upto gramQuotesSpec)) gramQuotesUptoCard
end Rows
end Go.Proofs.YtnffbmipllhjdaaGreatDoor
