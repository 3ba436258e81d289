/-
  What the rows of this seat share: the listed table as the door's own run lays it, and as the walks take it.
-/
import Derived.Test.YtmfllalmnhkakaaDoorRows
import Derived.Test.YtmfllalmnhkakaaDoorH
import Derived.ProofKit
import Derived.LaidMore
import Derived.OpenShut
import Derived.Stop.Joined
import Derived.Lib.LaidTab
namespace Go.Proofs.YtmfllalmnhkakaaDoor
open Go.ChangeShapes Go.WideShapes Go.ChangeAt Go.RowKit
set_option linter.unusedVariables false

theorem own : ownKnob Tryd.prog.godebug = none := by kernel_rfl
theorem laidOut : laidOutB Tryd.prog = true := by kernel_rfl
def laidAll : List (String × DataW Unit) := [("tidepole/crc.nibbles", Rows.laid_tidepole_crc_nibbles)]
theorem door_met (os : Os) (args : Array Value) : laidMetH Tryd.prog laidAll ((World.doorLaid Tryd.prog 400 os).forCall (fun _ _ => 0) ⟨#[], args, []⟩).memory :=
  laidMetH_of_parts3 (fuel := 8) (laidMet_of_run' 8 (by kernel_rfl) (by kernel_rfl)) (by kernel_rfl) (by kernel_rfl)
theorem gNib : Tryd.prog.globalNamed "tidepole/crc.nibbles" = some 0 := by kernel_rfl
theorem tNib : (Tryd.prog.globals[0]?).map (·.type) = some 56 := by kernel_rfl
theorem facts_of_laid {W : World} (h : laidMetH Tryd.prog laidAll W) : Tab W := by
  rw [MakeChecks.laidMetH_plain _ _ _ (by kernel_rfl)] at h
  have hT := Lib.tabIs_of_head (zs := nib.map (fun (n : Nat) => (n : Int))) gNib tNib Tryd.underlying56 Tryd.underlying22 (by kernel_rfl) (by kernel_rfl) h
  intro i hi
  have := hT.cell gNib i (by simpa [nib] using hi)
  rw [this]
  congr 2
  have e : nib[i]? = some nib[i] := List.getElem?_eq_getElem (by simpa [nib] using hi)
  simp [List.getD, e]
end Go.Proofs.YtmfllalmnhkakaaDoor
