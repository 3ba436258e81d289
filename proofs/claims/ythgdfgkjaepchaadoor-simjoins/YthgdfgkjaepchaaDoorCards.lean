/-
  DERIVED. GIVEN WITH THE SEED: THE CARDS: each row of YthgdfgkjaepchaaDoorRows.lean that lists a variable, with what it lists TIED to the program's text (the seventh form; the later family's looks); each row that meets fmt, with fmt's text TOLD by the authors' own Lean function (tested against real Go, not proved from fmt's source: count such statements apart). THE CARD IS WHAT COUNTS. Prove the row's statement (the work); the ties are given (YthgdfgkjaepchaaDoorTie.lean); close each card by the builder's one call (the guide's Derived/Test/ToyasCard.lean, 'card_holds'). Laid BY PROGRAM, IN A SANDBOX (cutbox-door.mjs). By AI agents, Wed Nov 11 2026. No macro, syntax, notation, axiom, sorry.
-/
import Derived.Test.YthgdfgkjaepchaaDoorRows
import GoSem.ClaimSeven
namespace Go.Proofs.YthgdfgkjaepchaaDoor
namespace Rows

/-- THE TIED CARD OF 'tidepolelaw11.ProgMakes'. -/
def progMakesCard : Claim7 := { stood := { row := progMakesRow, standIns := [], harness := (true, "464d324287ea5a479e8d1ee8db924ee89fa834c6e0f2ff7d84f50a4beb18f8e9"), looks := false }, kinds := [], alts := [], laidByText := true, laidKinds := [.data, .data, .data], laidTests := true, laidLooks := .later }
def ProgMakesCardSaid : Prop := Claim7.holds Tryd.pinned (.plain (OpenSpec.ofChange progMakesSpec)) progMakesCard

/-- THE TIED CARD OF 'tidepolelaw12.SimMeans'. -/
def simMeansCard : Claim7 := { stood := { row := simMeansRow, standIns := [], harness := (true, "464d324287ea5a479e8d1ee8db924ee89fa834c6e0f2ff7d84f50a4beb18f8e9"), looks := false }, kinds := [], alts := [], laidByText := true, laidKinds := [.data], laidTests := true, laidLooks := .later }
def SimMeansCardSaid : Prop := Claim7.holds Tryd.pinned (.plain (OpenSpec.ofChange simMeansSpec)) simMeansCard

/-- THE TIED CARD OF 'tidepolelaw12.SimJoins'. -/
def simJoinsCard : Claim7 := { stood := { row := simJoinsRow, standIns := [], harness := (true, "464d324287ea5a479e8d1ee8db924ee89fa834c6e0f2ff7d84f50a4beb18f8e9"), looks := false }, kinds := [], alts := [], laidByText := true, laidKinds := [.data], laidTests := true, laidLooks := .later }
def SimJoinsCardSaid : Prop := Claim7.holds Tryd.pinned (.plain (OpenSpec.ofChange simJoinsSpec)) simJoinsCard

/-- THE SECOND FORM's CARD OF 'tidepolelaw11.ProgMakes'. -/
def progMakesUptoCard : Claim7 := { stood := { row := progMakesUptoRow, standIns := [], harness := (true, "464d324287ea5a479e8d1ee8db924ee89fa834c6e0f2ff7d84f50a4beb18f8e9"), looks := false }, kinds := [], alts := [], laidByText := true, laidKinds := [.data, .data, .data], laidTests := true, laidLooks := .later }
def ProgMakesUptoCardSaid : Prop := Claim7.holds Tryd.pinned (.plain (OpenSpec.upto progMakesSpec)) progMakesUptoCard

/-- THE SECOND FORM's CARD OF 'tidepolelaw12.SimMeans'. -/
def simMeansUptoCard : Claim7 := { stood := { row := simMeansUptoRow, standIns := [], harness := (true, "464d324287ea5a479e8d1ee8db924ee89fa834c6e0f2ff7d84f50a4beb18f8e9"), looks := false }, kinds := [], alts := [], laidByText := true, laidKinds := [.data], laidTests := true, laidLooks := .later }
def SimMeansUptoCardSaid : Prop := Claim7.holds Tryd.pinned (.plain (OpenSpec.upto simMeansSpec)) simMeansUptoCard

/-- THE SECOND FORM's CARD OF 'tidepolelaw12.SimJoins'. -/
def simJoinsUptoCard : Claim7 := { stood := { row := simJoinsUptoRow, standIns := [], harness := (true, "464d324287ea5a479e8d1ee8db924ee89fa834c6e0f2ff7d84f50a4beb18f8e9"), looks := false }, kinds := [], alts := [], laidByText := true, laidKinds := [.data], laidTests := true, laidLooks := .later }
def SimJoinsUptoCardSaid : Prop := Claim7.holds Tryd.pinned (.plain (OpenSpec.upto simJoinsSpec)) simJoinsUptoCard
end Rows
end Go.Proofs.YthgdfgkjaepchaaDoor
