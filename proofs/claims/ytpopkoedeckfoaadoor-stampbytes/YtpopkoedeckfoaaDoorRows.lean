/-
  NARROWER THAN 'FOR EVERY INPUT', by the rows' own cells (each row's printed sentence says how): StampPuts: laid · StampGets: laid · StampBytes: laid · StampBack: laid · StampOnce: laid · StampSmall: laid.
  DERIVED. THE GIVEN ROWS OF THIS SEAT. 6 by the template 'for every input the law returns true; each argument reads behind the call as it read before'; 0 by the template 'total and deterministic' (their statements: YtpopkoedeckfoaaDoorTotals.lean).
  GIVEN WITH THE SEED: the statements are not yours to turn. If you find one false, say at which input.
  Laid BY PROGRAM, IN A SANDBOX (cutbox-rows.mjs): the forced cells as the released guide's own fill.sh prints them over the translation 5ac7ecfe287af446… (all of the seat's roots in one cut). By AI agents, Wed Nov 11 2026. No macro, syntax, notation, axiom, sorry.
-/
import Derived.Test.YtpopkoedeckfoaaDoorChecked
import GoSem.Claim
import GoSem.ClaimJoined
import GoSem.ClaimMapViews
import Derived.JoinedTies
import Derived.KernelRfl
namespace Go.Proofs.YtpopkoedeckfoaaDoor
/- THE CELL 'sum', in the pinned program and in every row, IS THE sha256 OF THE DUMP (.gsa) THAT YtpopkoedeckfoaaDoorProg.lean LOADS. Nothing in Lean hashes anything: it is a label: what it is worth is what the hold of that sum in a sandbox is worth. -/
noncomputable def Tryd.pinned : Pinned := { name := "ytpopkoedeckfoaadoor", sum := "5ac7ecfe287af44684f5bc4b0be2d33a1504e14920371638e20a6b0505826a92", checked := Tryd.checked }
namespace Rows
def none {H : Type} : Left H := { results := [], args := [] }

/- WHAT THE LISTED PACKAGE-LEVEL VARIABLES READ AS WHEN THE CALL BEGINS. Each datum BY PROGRAM (the guide's laid-datum.mjs) off the statement by which the dump's own 'gosem.cut.vars' lays the variable. In a bare row this is a premise. The card (YtpopkoedeckfoaaDoorCards.lean) ties it to the program's text. -/
def laid_tidepole_stamp_classes {H : Type} : DataW H := .agg [.agg [.lit (.int .u64 0), .lit (.int .i64 1), .lit (.int .i64 0)], .agg [.lit (.int .u64 2), .lit (.int .i64 2), .lit (.int .i64 7)], .agg [.lit (.int .u64 6), .lit (.int .i64 3), .lit (.int .i64 12)], .agg [.lit (.int .u64 14), .lit (.int .i64 4), .lit (.int .i64 20)], .agg [.lit (.int .u64 15), .lit (.int .i64 4), .lit (.int .i64 48)]]

/-- 'tidepolelaw06.StampPuts': WHATEVER THE INPUT: true; the input reads as it did. -/
def stampPutsSpec : ChangeSpec := { name := "stampPuts", fn := fun _ => fun
  | [d1, d2, d3] => { results := [.lit (.bool true)], args := [d1, d2, d3] }
  | _ => none }
def stampPutsRow : OpenClaim := { program := "ytpopkoedeckfoaadoor", sum := "5ac7ecfe287af44684f5bc4b0be2d33a1504e14920371638e20a6b0505826a92", func := "tidepole/tidepolelaw06.StampPuts", spec := "stampPuts", named := ["tidepole/stamp.classes"], apart := false, laid := [("tidepole/stamp.classes", laid_tidepole_stamp_classes)] }
def StampPutsSaid : Prop := stampPutsRow.holds Tryd.pinned (OpenSpec.ofChange stampPutsSpec)

/-- ITS FALSE NEIGHBOUR: 'it returns false'. Refute it at one input. -/
def stampPutsWrong : ChangeSpec := { name := "stampPuts", fn := fun _ => fun
  | [d1, d2, d3] => { results := [.lit (.bool false)], args := [d1, d2, d3] }
  | _ => none }
def StampPutsWrongFalsely : Prop := stampPutsRow.holds Tryd.pinned (OpenSpec.ofChange stampPutsWrong)

/-- 'tidepolelaw06.StampGets': WHATEVER THE INPUT: true; the input reads as it did. -/
def stampGetsSpec : ChangeSpec := { name := "stampGets", fn := fun _ => fun
  | [d1, d2, d3] => { results := [.lit (.bool true)], args := [d1, d2, d3] }
  | _ => none }
def stampGetsRow : OpenClaim := { program := "ytpopkoedeckfoaadoor", sum := "5ac7ecfe287af44684f5bc4b0be2d33a1504e14920371638e20a6b0505826a92", func := "tidepole/tidepolelaw06.StampGets", spec := "stampGets", named := ["tidepole/stamp.classes"], apart := false, laid := [("tidepole/stamp.classes", laid_tidepole_stamp_classes)] }
def StampGetsSaid : Prop := stampGetsRow.holds Tryd.pinned (OpenSpec.ofChange stampGetsSpec)

/-- ITS FALSE NEIGHBOUR: 'it returns false'. Refute it at one input. -/
def stampGetsWrong : ChangeSpec := { name := "stampGets", fn := fun _ => fun
  | [d1, d2, d3] => { results := [.lit (.bool false)], args := [d1, d2, d3] }
  | _ => none }
def StampGetsWrongFalsely : Prop := stampGetsRow.holds Tryd.pinned (OpenSpec.ofChange stampGetsWrong)

/-- 'tidepolelaw06.StampBytes': WHATEVER THE INPUT: true; the input reads as it did. -/
def stampBytesSpec : ChangeSpec := { name := "stampBytes", fn := fun _ => fun
  | [d1, d2, d3] => { results := [.lit (.bool true)], args := [d1, d2, d3] }
  | _ => none }
def stampBytesRow : OpenClaim := { program := "ytpopkoedeckfoaadoor", sum := "5ac7ecfe287af44684f5bc4b0be2d33a1504e14920371638e20a6b0505826a92", func := "tidepole/tidepolelaw06.StampBytes", spec := "stampBytes", unfollowed := true, recurses := true, named := ["tidepole/stamp.classes"], apart := false, laid := [("tidepole/stamp.classes", laid_tidepole_stamp_classes)] }
def StampBytesSaid : Prop := stampBytesRow.holds Tryd.pinned (OpenSpec.ofChange stampBytesSpec)

/-- ITS FALSE NEIGHBOUR: 'it returns false'. Refute it at one input. -/
def stampBytesWrong : ChangeSpec := { name := "stampBytes", fn := fun _ => fun
  | [d1, d2, d3] => { results := [.lit (.bool false)], args := [d1, d2, d3] }
  | _ => none }
def StampBytesWrongFalsely : Prop := stampBytesRow.holds Tryd.pinned (OpenSpec.ofChange stampBytesWrong)

/-- 'tidepolelaw06.StampBack': WHATEVER THE INPUT: true; the input reads as it did. -/
def stampBackSpec : ChangeSpec := { name := "stampBack", fn := fun _ => fun
  | [d1, d2] => { results := [.lit (.bool true)], args := [d1, d2] }
  | _ => none }
def stampBackRow : OpenClaim := { program := "ytpopkoedeckfoaadoor", sum := "5ac7ecfe287af44684f5bc4b0be2d33a1504e14920371638e20a6b0505826a92", func := "tidepole/tidepolelaw06.StampBack", spec := "stampBack", unfollowed := true, recurses := true, named := ["tidepole/stamp.classes"], apart := false, laid := [("tidepole/stamp.classes", laid_tidepole_stamp_classes)] }
def StampBackSaid : Prop := stampBackRow.holds Tryd.pinned (OpenSpec.ofChange stampBackSpec)

/-- ITS FALSE NEIGHBOUR: 'it returns false'. Refute it at one input. -/
def stampBackWrong : ChangeSpec := { name := "stampBack", fn := fun _ => fun
  | [d1, d2] => { results := [.lit (.bool false)], args := [d1, d2] }
  | _ => none }
def StampBackWrongFalsely : Prop := stampBackRow.holds Tryd.pinned (OpenSpec.ofChange stampBackWrong)

/-- 'tidepolelaw06.StampOnce': WHATEVER THE INPUT: true; the input reads as it did. -/
def stampOnceSpec : ChangeSpec := { name := "stampOnce", fn := fun _ => fun
  | [d] => { results := [.lit (.bool true)], args := [d] }
  | _ => none }
def stampOnceRow : OpenClaim := { program := "ytpopkoedeckfoaadoor", sum := "5ac7ecfe287af44684f5bc4b0be2d33a1504e14920371638e20a6b0505826a92", func := "tidepole/tidepolelaw06.StampOnce", spec := "stampOnce", named := ["tidepole/stamp.classes"], apart := false, laid := [("tidepole/stamp.classes", laid_tidepole_stamp_classes)] }
def StampOnceSaid : Prop := stampOnceRow.holds Tryd.pinned (OpenSpec.ofChange stampOnceSpec)

/-- ITS FALSE NEIGHBOUR: 'it returns false'. Refute it at one input. -/
def stampOnceWrong : ChangeSpec := { name := "stampOnce", fn := fun _ => fun
  | [d] => { results := [.lit (.bool false)], args := [d] }
  | _ => none }
def StampOnceWrongFalsely : Prop := stampOnceRow.holds Tryd.pinned (OpenSpec.ofChange stampOnceWrong)

/-- 'tidepolelaw06.StampSmall': WHATEVER THE INPUT: true; the input reads as it did. -/
def stampSmallSpec : ChangeSpec := { name := "stampSmall", fn := fun _ => fun
  | [d1, d2, d3] => { results := [.lit (.bool true)], args := [d1, d2, d3] }
  | _ => none }
def stampSmallRow : OpenClaim := { program := "ytpopkoedeckfoaadoor", sum := "5ac7ecfe287af44684f5bc4b0be2d33a1504e14920371638e20a6b0505826a92", func := "tidepole/tidepolelaw06.StampSmall", spec := "stampSmall", named := ["tidepole/stamp.classes"], apart := false, laid := [("tidepole/stamp.classes", laid_tidepole_stamp_classes)] }
def StampSmallSaid : Prop := stampSmallRow.holds Tryd.pinned (OpenSpec.ofChange stampSmallSpec)

/-- ITS FALSE NEIGHBOUR: 'it returns false'. Refute it at one input. -/
def stampSmallWrong : ChangeSpec := { name := "stampSmall", fn := fun _ => fun
  | [d1, d2, d3] => { results := [.lit (.bool false)], args := [d1, d2, d3] }
  | _ => none }
def StampSmallWrongFalsely : Prop := stampSmallRow.holds Tryd.pinned (OpenSpec.ofChange stampSmallWrong)

/- THE SECOND FORM. 'bulk': how many values and letters a reading holds, each counted each time it is reached (what is shared counts as often as it is met; a slice's spare places count too). A statement '..UptoSaid' is the law's where the arguments, and the package variables that the reading takes, are together of bulk at most 1048576: NARROWER than '..Said'. Prove '..Said' where nothing that the law and all that it calls make is longer than what came in: it says more and counts as full. Else prove '..UptoSaid'. A law counts once. -/
mutual
def uptoBulk {H : Type} : DataW H → Nat
  | .lit (.string bytes) => bytes.length + 1
  | .lit _ => 1
  | .nil => 1
  | .ptr d => uptoBulk d + 1
  | .slice elems spare => uptoBulkAll elems + uptoBulkAll spare + 1
  | .agg parts => uptoBulkAll parts + 1
  | .iface _ d => uptoBulk d + 1
  | .map entries => uptoBulkEntries entries + 1
  | .held _ => 1
def uptoBulkAll {H : Type} : List (DataW H) → Nat
  | [] => 0
  | d :: r => uptoBulk d + uptoBulkAll r
def uptoBulkEntries {H : Type} : List (Lit × DataW H) → Nat
  | [] => 0
  | x :: r => uptoBulkEntry x + uptoBulkEntries r
def uptoBulkEntry {H : Type} : Lit × DataW H → Nat
  | (.string bytes, d) => bytes.length + uptoBulk d + 1
  | (_, d) => uptoBulk d + 1
 end
def uptoSmall : (H : Type) → List (DataW H) → Bool := fun _ ds => decide (uptoBulkAll ds ≤ 1048576)
def OpenSpec.upto (s : _root_.Go.ChangeSpec) : _root_.Go.OpenSpec := { _root_.Go.OpenSpec.ofChange s with cond := some uptoSmall }

/-- 'tidepolelaw06.StampPuts', WHERE WHAT IT READS IS OF BULK AT MOST 1048576: true; the input reads as it did. -/
def stampPutsUptoRow : OpenClaim := { program := "ytpopkoedeckfoaadoor", sum := "5ac7ecfe287af44684f5bc4b0be2d33a1504e14920371638e20a6b0505826a92", func := "tidepole/tidepolelaw06.StampPuts", spec := "stampPuts", named := ["tidepole/stamp.classes"], apart := false, laid := [("tidepole/stamp.classes", laid_tidepole_stamp_classes)], narrowed := true }
def StampPutsUptoSaid : Prop := stampPutsUptoRow.holds Tryd.pinned (OpenSpec.upto stampPutsSpec)

/-- 'tidepolelaw06.StampGets', WHERE WHAT IT READS IS OF BULK AT MOST 1048576: true; the input reads as it did. -/
def stampGetsUptoRow : OpenClaim := { program := "ytpopkoedeckfoaadoor", sum := "5ac7ecfe287af44684f5bc4b0be2d33a1504e14920371638e20a6b0505826a92", func := "tidepole/tidepolelaw06.StampGets", spec := "stampGets", named := ["tidepole/stamp.classes"], apart := false, laid := [("tidepole/stamp.classes", laid_tidepole_stamp_classes)], narrowed := true }
def StampGetsUptoSaid : Prop := stampGetsUptoRow.holds Tryd.pinned (OpenSpec.upto stampGetsSpec)

/-- 'tidepolelaw06.StampBytes', WHERE WHAT IT READS IS OF BULK AT MOST 1048576: true; the input reads as it did. -/
def stampBytesUptoRow : OpenClaim := { program := "ytpopkoedeckfoaadoor", sum := "5ac7ecfe287af44684f5bc4b0be2d33a1504e14920371638e20a6b0505826a92", func := "tidepole/tidepolelaw06.StampBytes", spec := "stampBytes", unfollowed := true, recurses := true, named := ["tidepole/stamp.classes"], apart := false, laid := [("tidepole/stamp.classes", laid_tidepole_stamp_classes)], narrowed := true }
def StampBytesUptoSaid : Prop := stampBytesUptoRow.holds Tryd.pinned (OpenSpec.upto stampBytesSpec)

/-- 'tidepolelaw06.StampBack', WHERE WHAT IT READS IS OF BULK AT MOST 1048576: true; the input reads as it did. -/
def stampBackUptoRow : OpenClaim := { program := "ytpopkoedeckfoaadoor", sum := "5ac7ecfe287af44684f5bc4b0be2d33a1504e14920371638e20a6b0505826a92", func := "tidepole/tidepolelaw06.StampBack", spec := "stampBack", unfollowed := true, recurses := true, named := ["tidepole/stamp.classes"], apart := false, laid := [("tidepole/stamp.classes", laid_tidepole_stamp_classes)], narrowed := true }
def StampBackUptoSaid : Prop := stampBackUptoRow.holds Tryd.pinned (OpenSpec.upto stampBackSpec)

/-- 'tidepolelaw06.StampOnce', WHERE WHAT IT READS IS OF BULK AT MOST 1048576: true; the input reads as it did. -/
def stampOnceUptoRow : OpenClaim := { program := "ytpopkoedeckfoaadoor", sum := "5ac7ecfe287af44684f5bc4b0be2d33a1504e14920371638e20a6b0505826a92", func := "tidepole/tidepolelaw06.StampOnce", spec := "stampOnce", named := ["tidepole/stamp.classes"], apart := false, laid := [("tidepole/stamp.classes", laid_tidepole_stamp_classes)], narrowed := true }
def StampOnceUptoSaid : Prop := stampOnceUptoRow.holds Tryd.pinned (OpenSpec.upto stampOnceSpec)

/-- 'tidepolelaw06.StampSmall', WHERE WHAT IT READS IS OF BULK AT MOST 1048576: true; the input reads as it did. -/
def stampSmallUptoRow : OpenClaim := { program := "ytpopkoedeckfoaadoor", sum := "5ac7ecfe287af44684f5bc4b0be2d33a1504e14920371638e20a6b0505826a92", func := "tidepole/tidepolelaw06.StampSmall", spec := "stampSmall", named := ["tidepole/stamp.classes"], apart := false, laid := [("tidepole/stamp.classes", laid_tidepole_stamp_classes)], narrowed := true }
def StampSmallUptoSaid : Prop := stampSmallUptoRow.holds Tryd.pinned (OpenSpec.upto stampSmallSpec)

end Rows
end Go.Proofs.YtpopkoedeckfoaaDoor
