/-
  What the rows of this seat share: the listed table as the door's own run lays it.
-/
import Derived.Test.YtkfdikpnnkbgaaaGreatDoorRows
import Derived.Test.YtkfdikpnnkbgaaaGreatDoorA
import Derived.ProofKit
import Derived.OpenShut
import Derived.LaidMore
import Derived.Lib.LaidTab
import Derived.Stop.LaidErr
import Derived.Stop.Joined
namespace Go.Proofs.YtkfdikpnnkbgaaaGreatDoor
open Go.ChangeShapes Go.WideShapes Go.ChangeAt Go.RowKit
set_option linter.unusedVariables false
set_option linter.unusedSimpArgs false

theorem own : ownKnob Tryz.prog.godebug = none := by kernel_rfl
theorem laidOut : laidOutB Tryz.prog = true := by kernel_rfl
def laidAll : List (String × DataW Unit) := [("math/bits.deBruijn64tab", Rows.laid_math_bits_deBruijn64tab)]
theorem door_met (os : Os) (args : Array Value) : laidMetH Tryz.prog laidAll ((World.doorLaid Tryz.prog 400 os).forCall (fun _ _ => 0) ⟨#[], args, []⟩).memory :=
  laidMetH_of_parts3 (fuel := 8) (laidMet_of_run' 8 (by kernel_rfl) (by kernel_rfl)) (by kernel_rfl) (by kernel_rfl)
theorem gTab : Tryz.prog.globalNamed "math/bits.deBruijn64tab" = some 0 := by kernel_rfl
noncomputable def tyTab : TypeId := ((Tryz.prog.globals[0]?).map (·.type)).getD 0
theorem tTab : (Tryz.prog.globals[0]?).map (·.type) = some tyTab := by kernel_rfl
theorem uTab : Tryz.prog.underlying tyTab = some (.array 64 5) := by kernel_rfl
theorem facts_of_laid {W : World} (h : laidMetH Tryz.prog laidAll W) : Tab W := by
  rw [MakeChecks.laidMetH_plain _ _ _ (by kernel_rfl)] at h
  have hT := Lib.tabIs_of_head (zs := Lib.deBruijn64tab.map (fun (n : Nat) => (n : Int))) gTab tTab uTab Tryz.underlying5 (by kernel_rfl) (by kernel_rfl) h
  intro i hi
  have := hT.cell gTab i (by simpa [Lib.deBruijn64tab] using hi)
  rw [this]
  congr 2
  have e : Lib.deBruijn64tab[i]? = some Lib.deBruijn64tab[i] := List.getElem?_eq_getElem (by simpa [Lib.deBruijn64tab] using hi)
  simp [List.getD, e]
end Go.Proofs.YtkfdikpnnkbgaaaGreatDoor
