/-
  DERIVED. GIVEN WITH THE SEED: THE CARDS: each row of YtbaclihlckfndaaDoorRows.lean that lists a variable, with what it lists TIED to the program's text (the seventh form; the later family's looks); each row that meets fmt, with fmt's text TOLD by the authors' own Lean function (tested against real Go, not proved from fmt's source: count such statements apart). THE CARD IS WHAT COUNTS. Prove the row's statement (the work); the ties are given (YtbaclihlckfndaaDoorTie.lean); close each card by the builder's one call (the guide's Derived/Test/ToyasCard.lean, 'card_holds'). Laid BY PROGRAM, IN A SANDBOX (cutbox-door.mjs). By AI agents, Wed Nov 11 2026. No macro, syntax, notation, axiom, sorry.
-/
import Derived.Test.YtbaclihlckfndaaDoorRows
import GoSem.ClaimSeven
namespace Go.Proofs.YtbaclihlckfndaaDoor
namespace Rows

/-- THE TIED CARD OF 'tidepolelaw03.FrameWrites'. -/
def frameWritesCard : Claim7 := { stood := { row := frameWritesRow, standIns := [], harness := (true, "8a7068d60e9f046b9341552a2006e7b2ebd13a7362056cc65eec05ff75079f43"), looks := false }, kinds := [], alts := [], laidByText := true, laidKinds := [.data], laidTests := true, laidLooks := .later }
def FrameWritesCardSaid : Prop := Claim7.holds Tryd.pinned (.plain (OpenSpec.ofChange frameWritesSpec)) frameWritesCard

/-- THE TIED CARD OF 'tidepolelaw03.FrameReads'. -/
def frameReadsCard : Claim7 := { stood := { row := frameReadsRow, standIns := [], harness := (true, "8a7068d60e9f046b9341552a2006e7b2ebd13a7362056cc65eec05ff75079f43"), looks := false }, kinds := [], alts := [], laidByText := true, laidKinds := [.data], laidTests := true, laidLooks := .later }
def FrameReadsCardSaid : Prop := Claim7.holds Tryd.pinned (.plain (OpenSpec.ofChange frameReadsSpec)) frameReadsCard

/-- THE TIED CARD OF 'tidepolelaw03.FrameBack'. -/
def frameBackCard : Claim7 := { stood := { row := frameBackRow, standIns := [], harness := (true, "8a7068d60e9f046b9341552a2006e7b2ebd13a7362056cc65eec05ff75079f43"), looks := false }, kinds := [], alts := [], laidByText := true, laidKinds := [.data], laidTests := true, laidLooks := .later }
def FrameBackCardSaid : Prop := Claim7.holds Tryd.pinned (.plain (OpenSpec.ofChange frameBackSpec)) frameBackCard

/-- THE TIED CARD OF 'tidepolelaw03.FrameFronts'. -/
def frameFrontsCard : Claim7 := { stood := { row := frameFrontsRow, standIns := [], harness := (true, "8a7068d60e9f046b9341552a2006e7b2ebd13a7362056cc65eec05ff75079f43"), looks := false }, kinds := [], alts := [], laidByText := true, laidKinds := [.data], laidTests := true, laidLooks := .later }
def FrameFrontsCardSaid : Prop := Claim7.holds Tryd.pinned (.plain (OpenSpec.ofChange frameFrontsSpec)) frameFrontsCard

/-- THE TIED CARD OF 'tidepolelaw03.FrameOther'. -/
def frameOtherCard : Claim7 := { stood := { row := frameOtherRow, standIns := [], harness := (true, "8a7068d60e9f046b9341552a2006e7b2ebd13a7362056cc65eec05ff75079f43"), looks := false }, kinds := [], alts := [], laidByText := true, laidKinds := [.data], laidTests := true, laidLooks := .later }
def FrameOtherCardSaid : Prop := Claim7.holds Tryd.pinned (.plain (OpenSpec.ofChange frameOtherSpec)) frameOtherCard

/-- THE SECOND FORM's CARD OF 'tidepolelaw03.FrameWrites'. -/
def frameWritesUptoCard : Claim7 := { stood := { row := frameWritesUptoRow, standIns := [], harness := (true, "8a7068d60e9f046b9341552a2006e7b2ebd13a7362056cc65eec05ff75079f43"), looks := false }, kinds := [], alts := [], laidByText := true, laidKinds := [.data], laidTests := true, laidLooks := .later }
def FrameWritesUptoCardSaid : Prop := Claim7.holds Tryd.pinned (.plain (OpenSpec.upto frameWritesSpec)) frameWritesUptoCard

/-- THE SECOND FORM's CARD OF 'tidepolelaw03.FrameReads'. -/
def frameReadsUptoCard : Claim7 := { stood := { row := frameReadsUptoRow, standIns := [], harness := (true, "8a7068d60e9f046b9341552a2006e7b2ebd13a7362056cc65eec05ff75079f43"), looks := false }, kinds := [], alts := [], laidByText := true, laidKinds := [.data], laidTests := true, laidLooks := .later }
def FrameReadsUptoCardSaid : Prop := Claim7.holds Tryd.pinned (.plain (OpenSpec.upto frameReadsSpec)) frameReadsUptoCard

/-- THE SECOND FORM's CARD OF 'tidepolelaw03.FrameBack'. -/
def frameBackUptoCard : Claim7 := { stood := { row := frameBackUptoRow, standIns := [], harness := (true, "8a7068d60e9f046b9341552a2006e7b2ebd13a7362056cc65eec05ff75079f43"), looks := false }, kinds := [], alts := [], laidByText := true, laidKinds := [.data], laidTests := true, laidLooks := .later }
def FrameBackUptoCardSaid : Prop := Claim7.holds Tryd.pinned (.plain (OpenSpec.upto frameBackSpec)) frameBackUptoCard

/-- THE SECOND FORM's CARD OF 'tidepolelaw03.FrameFronts'. -/
def frameFrontsUptoCard : Claim7 := { stood := { row := frameFrontsUptoRow, standIns := [], harness := (true, "8a7068d60e9f046b9341552a2006e7b2ebd13a7362056cc65eec05ff75079f43"), looks := false }, kinds := [], alts := [], laidByText := true, laidKinds := [.data], laidTests := true, laidLooks := .later }
def FrameFrontsUptoCardSaid : Prop := Claim7.holds Tryd.pinned (.plain (OpenSpec.upto frameFrontsSpec)) frameFrontsUptoCard

/-- THE SECOND FORM's CARD OF 'tidepolelaw03.FrameOther'. -/
def frameOtherUptoCard : Claim7 := { stood := { row := frameOtherUptoRow, standIns := [], harness := (true, "8a7068d60e9f046b9341552a2006e7b2ebd13a7362056cc65eec05ff75079f43"), looks := false }, kinds := [], alts := [], laidByText := true, laidKinds := [.data], laidTests := true, laidLooks := .later }
def FrameOtherUptoCardSaid : Prop := Claim7.holds Tryd.pinned (.plain (OpenSpec.upto frameOtherSpec)) frameOtherUptoCard
end Rows
end Go.Proofs.YtbaclihlckfndaaDoor
