/-
  DERIVED. GIVEN WITH THE SEED: THE CARDS: each row of YtmddkinecplooaaDoorRows.lean that lists a variable, with what it lists TIED to the program's text (the seventh form; the later family's looks); each row that meets fmt, with fmt's text TOLD by the authors' own Lean function (tested against real Go, not proved from fmt's source: count such statements apart). THE CARD IS WHAT COUNTS. Prove the row's statement (the work); the ties are given (YtmddkinecplooaaDoorTie.lean); close each card by the builder's one call (the guide's Derived/Test/ToyasCard.lean, 'card_holds'). Laid BY PROGRAM, IN A SANDBOX (cutbox-door.mjs). By AI agents, Wed Nov 11 2026. No macro, syntax, notation, axiom, sorry.
-/
import Derived.Test.YtmddkinecplooaaDoorRows
import GoSem.ClaimSeven
namespace Go.Proofs.YtmddkinecplooaaDoor
namespace Rows

/-- THE TIED CARD OF 'tidepolelaw07.XorPuts'. -/
def xorPutsCard : Claim7 := { stood := { row := xorPutsRow, standIns := [], harness := (true, "094f573e5ad96d9c95844978b6fa1bb0521bebfdc363e467aaa1ccd227fd3a10"), looks := false }, kinds := [], alts := [], laidByText := true, laidKinds := [.data], laidTests := true, laidLooks := .later }
def XorPutsCardSaid : Prop := Claim7.holds Tryd.pinned (.plain (OpenSpec.ofChange xorPutsSpec)) xorPutsCard

/-- THE TIED CARD OF 'tidepolelaw07.XorGets'. -/
def xorGetsCard : Claim7 := { stood := { row := xorGetsRow, standIns := [], harness := (true, "094f573e5ad96d9c95844978b6fa1bb0521bebfdc363e467aaa1ccd227fd3a10"), looks := false }, kinds := [], alts := [], laidByText := true, laidKinds := [.data], laidTests := true, laidLooks := .later }
def XorGetsCardSaid : Prop := Claim7.holds Tryd.pinned (.plain (OpenSpec.ofChange xorGetsSpec)) xorGetsCard

/-- THE TIED CARD OF 'tidepolelaw07.XorBytes'. -/
def xorBytesCard : Claim7 := { stood := { row := xorBytesRow, standIns := [], harness := (true, "094f573e5ad96d9c95844978b6fa1bb0521bebfdc363e467aaa1ccd227fd3a10"), looks := false }, kinds := [], alts := [], laidByText := true, laidKinds := [.data], laidTests := true, laidLooks := .later }
def XorBytesCardSaid : Prop := Claim7.holds Tryd.pinned (.plain (OpenSpec.ofChange xorBytesSpec)) xorBytesCard

/-- THE TIED CARD OF 'tidepolelaw07.XorOnce'. -/
def xorOnceCard : Claim7 := { stood := { row := xorOnceRow, standIns := [], harness := (true, "094f573e5ad96d9c95844978b6fa1bb0521bebfdc363e467aaa1ccd227fd3a10"), looks := false }, kinds := [], alts := [], laidByText := true, laidKinds := [.data], laidTests := true, laidLooks := .later }
def XorOnceCardSaid : Prop := Claim7.holds Tryd.pinned (.plain (OpenSpec.ofChange xorOnceSpec)) xorOnceCard

/-- THE TIED CARD OF 'tidepolelaw07.XorSmall'. -/
def xorSmallCard : Claim7 := { stood := { row := xorSmallRow, standIns := [], harness := (true, "094f573e5ad96d9c95844978b6fa1bb0521bebfdc363e467aaa1ccd227fd3a10"), looks := false }, kinds := [], alts := [], laidByText := true, laidKinds := [.data], laidTests := true, laidLooks := .later }
def XorSmallCardSaid : Prop := Claim7.holds Tryd.pinned (.plain (OpenSpec.ofChange xorSmallSpec)) xorSmallCard

/-- THE SECOND FORM's CARD OF 'tidepolelaw07.XorPuts'. -/
def xorPutsUptoCard : Claim7 := { stood := { row := xorPutsUptoRow, standIns := [], harness := (true, "094f573e5ad96d9c95844978b6fa1bb0521bebfdc363e467aaa1ccd227fd3a10"), looks := false }, kinds := [], alts := [], laidByText := true, laidKinds := [.data], laidTests := true, laidLooks := .later }
def XorPutsUptoCardSaid : Prop := Claim7.holds Tryd.pinned (.plain (OpenSpec.upto xorPutsSpec)) xorPutsUptoCard

/-- THE SECOND FORM's CARD OF 'tidepolelaw07.XorGets'. -/
def xorGetsUptoCard : Claim7 := { stood := { row := xorGetsUptoRow, standIns := [], harness := (true, "094f573e5ad96d9c95844978b6fa1bb0521bebfdc363e467aaa1ccd227fd3a10"), looks := false }, kinds := [], alts := [], laidByText := true, laidKinds := [.data], laidTests := true, laidLooks := .later }
def XorGetsUptoCardSaid : Prop := Claim7.holds Tryd.pinned (.plain (OpenSpec.upto xorGetsSpec)) xorGetsUptoCard

/-- THE SECOND FORM's CARD OF 'tidepolelaw07.XorBytes'. -/
def xorBytesUptoCard : Claim7 := { stood := { row := xorBytesUptoRow, standIns := [], harness := (true, "094f573e5ad96d9c95844978b6fa1bb0521bebfdc363e467aaa1ccd227fd3a10"), looks := false }, kinds := [], alts := [], laidByText := true, laidKinds := [.data], laidTests := true, laidLooks := .later }
def XorBytesUptoCardSaid : Prop := Claim7.holds Tryd.pinned (.plain (OpenSpec.upto xorBytesSpec)) xorBytesUptoCard

/-- THE SECOND FORM's CARD OF 'tidepolelaw07.XorOnce'. -/
def xorOnceUptoCard : Claim7 := { stood := { row := xorOnceUptoRow, standIns := [], harness := (true, "094f573e5ad96d9c95844978b6fa1bb0521bebfdc363e467aaa1ccd227fd3a10"), looks := false }, kinds := [], alts := [], laidByText := true, laidKinds := [.data], laidTests := true, laidLooks := .later }
def XorOnceUptoCardSaid : Prop := Claim7.holds Tryd.pinned (.plain (OpenSpec.upto xorOnceSpec)) xorOnceUptoCard

/-- THE SECOND FORM's CARD OF 'tidepolelaw07.XorSmall'. -/
def xorSmallUptoCard : Claim7 := { stood := { row := xorSmallUptoRow, standIns := [], harness := (true, "094f573e5ad96d9c95844978b6fa1bb0521bebfdc363e467aaa1ccd227fd3a10"), looks := false }, kinds := [], alts := [], laidByText := true, laidKinds := [.data], laidTests := true, laidLooks := .later }
def XorSmallUptoCardSaid : Prop := Claim7.holds Tryd.pinned (.plain (OpenSpec.upto xorSmallSpec)) xorSmallUptoCard
end Rows
end Go.Proofs.YtmddkinecplooaaDoor
