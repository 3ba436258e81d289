/-
  DERIVED. GIVEN WITH THE SEED: THE CARDS: each row of YtpopkoedeckfoaaDoorRows.lean that lists a variable, with what it lists TIED to the program's text (the seventh form; the later family's looks); each row that meets fmt, with fmt's text TOLD by the authors' own Lean function (tested against real Go, not proved from fmt's source: count such statements apart). THE CARD IS WHAT COUNTS. Prove the row's statement (the work); the ties are given (YtpopkoedeckfoaaDoorTie.lean); close each card by the builder's one call (the guide's Derived/Test/ToyasCard.lean, 'card_holds'). Laid BY PROGRAM, IN A SANDBOX (cutbox-door.mjs). By AI agents, Wed Nov 11 2026. No macro, syntax, notation, axiom, sorry.
-/
import Derived.Test.YtpopkoedeckfoaaDoorRows
import GoSem.ClaimSeven
namespace Go.Proofs.YtpopkoedeckfoaaDoor
namespace Rows

/-- THE TIED CARD OF 'tidepolelaw06.StampPuts'. -/
def stampPutsCard : Claim7 := { stood := { row := stampPutsRow, standIns := [], harness := (true, "5c1edf98ea2e16e7cb9a9d4b8768f3a9d4dd257037bfaadced587084fed5f667"), looks := false }, kinds := [], alts := [], laidByText := true, laidKinds := [.data], laidTests := true, laidLooks := .later }
def StampPutsCardSaid : Prop := Claim7.holds Tryd.pinned (.plain (OpenSpec.ofChange stampPutsSpec)) stampPutsCard

/-- THE TIED CARD OF 'tidepolelaw06.StampGets'. -/
def stampGetsCard : Claim7 := { stood := { row := stampGetsRow, standIns := [], harness := (true, "5c1edf98ea2e16e7cb9a9d4b8768f3a9d4dd257037bfaadced587084fed5f667"), looks := false }, kinds := [], alts := [], laidByText := true, laidKinds := [.data], laidTests := true, laidLooks := .later }
def StampGetsCardSaid : Prop := Claim7.holds Tryd.pinned (.plain (OpenSpec.ofChange stampGetsSpec)) stampGetsCard

/-- THE TIED CARD OF 'tidepolelaw06.StampBytes'. -/
def stampBytesCard : Claim7 := { stood := { row := stampBytesRow, standIns := [], harness := (true, "5c1edf98ea2e16e7cb9a9d4b8768f3a9d4dd257037bfaadced587084fed5f667"), looks := false }, kinds := [], alts := [], laidByText := true, laidKinds := [.data], laidTests := true, laidLooks := .later }
def StampBytesCardSaid : Prop := Claim7.holds Tryd.pinned (.plain (OpenSpec.ofChange stampBytesSpec)) stampBytesCard

/-- THE TIED CARD OF 'tidepolelaw06.StampBack'. -/
def stampBackCard : Claim7 := { stood := { row := stampBackRow, standIns := [], harness := (true, "5c1edf98ea2e16e7cb9a9d4b8768f3a9d4dd257037bfaadced587084fed5f667"), looks := false }, kinds := [], alts := [], laidByText := true, laidKinds := [.data], laidTests := true, laidLooks := .later }
def StampBackCardSaid : Prop := Claim7.holds Tryd.pinned (.plain (OpenSpec.ofChange stampBackSpec)) stampBackCard

/-- THE TIED CARD OF 'tidepolelaw06.StampOnce'. -/
def stampOnceCard : Claim7 := { stood := { row := stampOnceRow, standIns := [], harness := (true, "5c1edf98ea2e16e7cb9a9d4b8768f3a9d4dd257037bfaadced587084fed5f667"), looks := false }, kinds := [], alts := [], laidByText := true, laidKinds := [.data], laidTests := true, laidLooks := .later }
def StampOnceCardSaid : Prop := Claim7.holds Tryd.pinned (.plain (OpenSpec.ofChange stampOnceSpec)) stampOnceCard

/-- THE TIED CARD OF 'tidepolelaw06.StampSmall'. -/
def stampSmallCard : Claim7 := { stood := { row := stampSmallRow, standIns := [], harness := (true, "5c1edf98ea2e16e7cb9a9d4b8768f3a9d4dd257037bfaadced587084fed5f667"), looks := false }, kinds := [], alts := [], laidByText := true, laidKinds := [.data], laidTests := true, laidLooks := .later }
def StampSmallCardSaid : Prop := Claim7.holds Tryd.pinned (.plain (OpenSpec.ofChange stampSmallSpec)) stampSmallCard

/-- THE SECOND FORM's CARD OF 'tidepolelaw06.StampPuts'. -/
def stampPutsUptoCard : Claim7 := { stood := { row := stampPutsUptoRow, standIns := [], harness := (true, "5c1edf98ea2e16e7cb9a9d4b8768f3a9d4dd257037bfaadced587084fed5f667"), looks := false }, kinds := [], alts := [], laidByText := true, laidKinds := [.data], laidTests := true, laidLooks := .later }
def StampPutsUptoCardSaid : Prop := Claim7.holds Tryd.pinned (.plain (OpenSpec.upto stampPutsSpec)) stampPutsUptoCard

/-- THE SECOND FORM's CARD OF 'tidepolelaw06.StampGets'. -/
def stampGetsUptoCard : Claim7 := { stood := { row := stampGetsUptoRow, standIns := [], harness := (true, "5c1edf98ea2e16e7cb9a9d4b8768f3a9d4dd257037bfaadced587084fed5f667"), looks := false }, kinds := [], alts := [], laidByText := true, laidKinds := [.data], laidTests := true, laidLooks := .later }
def StampGetsUptoCardSaid : Prop := Claim7.holds Tryd.pinned (.plain (OpenSpec.upto stampGetsSpec)) stampGetsUptoCard

/-- THE SECOND FORM's CARD OF 'tidepolelaw06.StampBytes'. -/
def stampBytesUptoCard : Claim7 := { stood := { row := stampBytesUptoRow, standIns := [], harness := (true, "5c1edf98ea2e16e7cb9a9d4b8768f3a9d4dd257037bfaadced587084fed5f667"), looks := false }, kinds := [], alts := [], laidByText := true, laidKinds := [.data], laidTests := true, laidLooks := .later }
def StampBytesUptoCardSaid : Prop := Claim7.holds Tryd.pinned (.plain (OpenSpec.upto stampBytesSpec)) stampBytesUptoCard

/-- THE SECOND FORM's CARD OF 'tidepolelaw06.StampBack'. -/
def stampBackUptoCard : Claim7 := { stood := { row := stampBackUptoRow, standIns := [], harness := (true, "5c1edf98ea2e16e7cb9a9d4b8768f3a9d4dd257037bfaadced587084fed5f667"), looks := false }, kinds := [], alts := [], laidByText := true, laidKinds := [.data], laidTests := true, laidLooks := .later }
def StampBackUptoCardSaid : Prop := Claim7.holds Tryd.pinned (.plain (OpenSpec.upto stampBackSpec)) stampBackUptoCard

/-- THE SECOND FORM's CARD OF 'tidepolelaw06.StampOnce'. -/
def stampOnceUptoCard : Claim7 := { stood := { row := stampOnceUptoRow, standIns := [], harness := (true, "5c1edf98ea2e16e7cb9a9d4b8768f3a9d4dd257037bfaadced587084fed5f667"), looks := false }, kinds := [], alts := [], laidByText := true, laidKinds := [.data], laidTests := true, laidLooks := .later }
def StampOnceUptoCardSaid : Prop := Claim7.holds Tryd.pinned (.plain (OpenSpec.upto stampOnceSpec)) stampOnceUptoCard

/-- THE SECOND FORM's CARD OF 'tidepolelaw06.StampSmall'. -/
def stampSmallUptoCard : Claim7 := { stood := { row := stampSmallUptoRow, standIns := [], harness := (true, "5c1edf98ea2e16e7cb9a9d4b8768f3a9d4dd257037bfaadced587084fed5f667"), looks := false }, kinds := [], alts := [], laidByText := true, laidKinds := [.data], laidTests := true, laidLooks := .later }
def StampSmallUptoCardSaid : Prop := Claim7.holds Tryd.pinned (.plain (OpenSpec.upto stampSmallSpec)) stampSmallUptoCard
end Rows
end Go.Proofs.YtpopkoedeckfoaaDoor
