/-
  What the rows of this seat share: the listed tables as the door's own run lays them.
-/
import Derived.Test.YtkgegjnkkbgghaaDoorRows
import Derived.Test.YtkgegjnkkbgghaaDoorDF
import Derived.ProofKit
import Derived.OpenShut
import Derived.LaidMore
import Derived.Lib.LaidTab
import Derived.Stop.LaidErr
import Derived.Stop.Joined
namespace Go.Proofs.YtkgegjnkkbgghaaDoor
open Go.ChangeShapes Go.WideShapes Go.ChangeAt Go.RowKit
set_option linter.unusedVariables false
set_option linter.unusedSimpArgs false

theorem own : ownKnob Tryd.prog.godebug = none := by kernel_rfl
theorem laidOut : laidOutB Tryd.prog = true := by kernel_rfl
def laidAll : List (String × DataW Unit) := [("math/bits.deBruijn32tab", Rows.laid_math_bits_deBruijn32tab), ("math/bits.deBruijn64tab", Rows.laid_math_bits_deBruijn64tab), ("internal/strconv.uint64pow10", Rows.laid_internal_strconv_uint64pow10)]
theorem door_met (os : Os) (args : Array Value) : laidMetH Tryd.prog laidAll ((World.doorLaid Tryd.prog 400 os).forCall (fun _ _ => 0) ⟨#[], args, []⟩).memory :=
  laidMetH_of_parts3 (fuel := 8) (laidMet_of_run' 8 (by kernel_rfl) (by kernel_rfl)) (by kernel_rfl) (by kernel_rfl)
theorem gTab : Tryd.prog.globalNamed "math/bits.deBruijn64tab" = some 2 := by kernel_rfl
noncomputable def tyTab : TypeId := ((Tryd.prog.globals[2]?).map (·.type)).getD 0
theorem tTab : (Tryd.prog.globals[2]?).map (·.type) = some tyTab := by kernel_rfl
theorem uTab : Tryd.prog.underlying tyTab = some (.array 64 5) := by kernel_rfl
noncomputable def tyPow : TypeId := ((Tryd.prog.globals[0]?).map (·.type)).getD 0
theorem tPow : (Tryd.prog.globals[0]?).map (·.type) = some tyPow := by kernel_rfl
noncomputable def elPow : TypeId := match Tryd.prog.underlying tyPow with | some (.array _ e) => e | _ => 0
theorem uPow : Tryd.prog.underlying tyPow = some (.array 20 elPow) := by kernel_rfl
theorem ePow : Tryd.prog.underlying elPow = some (.int .u64) := by kernel_rfl
theorem facts_of_laid {W : World} (h : laidMetH Tryd.prog laidAll W) : Tab W ∧ Pw W := by
  rw [MakeChecks.laidMetH_plain _ _ _ (by kernel_rfl)] at h
  have h2 := h.tail
  have h3 := h2.tail
  have hT := Lib.tabIs_of_head (zs := Lib.deBruijn64tab.map (fun (n : Nat) => (n : Int))) gTab tTab uTab Tryd.underlying5 (by kernel_rfl) (by kernel_rfl) h2
  have hP := Lib.tabIs_of_head (zs := Lib.pow10Tab) gPow tPow uPow ePow (by kernel_rfl) (by kernel_rfl) h3
  refine ⟨⟨fun i hi => ?_, fun i hi => ?_⟩, ?_⟩
  · have := hT.cell gTab i (by simpa [Lib.deBruijn64tab] using hi)
    rw [this]
    congr 2
    have e : Lib.deBruijn64tab[i]? = some Lib.deBruijn64tab[i] := List.getElem?_eq_getElem (by simpa [Lib.deBruijn64tab] using hi)
    simp [List.getD, e]
  · have := hP.cell gPow i (by rw [show Lib.pow10Tab.length = 20 by decide]; exact hi)
    rw [this]
    congr 2
    clear this
    revert i
    decide
  · unfold Lib.TabIs World.var? at hP
    rw [gPow] at hP
    simp only [Option.bind_some] at hP
    split at hP
    · rename_i cs t fr he
      cases hP
      exact ⟨_, _, he⟩
    · cases hP
end Go.Proofs.YtkgegjnkkbgghaaDoor
