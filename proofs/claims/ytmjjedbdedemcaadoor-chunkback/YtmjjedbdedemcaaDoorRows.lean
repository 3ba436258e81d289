/-
  NARROWER THAN 'FOR EVERY INPUT', by the rows' own cells (each row's printed sentence says how): ChunkBack: laid · ChunkOnce: laid · ChunkMerges: laid.
  DERIVED. THE GIVEN ROWS OF THIS SEAT. 3 by the template 'for every input the law returns true; each argument reads behind the call as it read before'; 0 by the template 'total and deterministic' (their statements: YtmjjedbdedemcaaDoorTotals.lean).
  GIVEN WITH THE SEED: the statements are not yours to turn. If you find one false, say at which input.
  Laid BY PROGRAM, IN A SANDBOX (cutbox-rows.mjs): the forced cells as the released guide's own fill.sh prints them over the translation ca963a2d707fde50… (all of the seat's roots in one cut). By AI agents, Wed Nov 11 2026. No macro, syntax, notation, axiom, sorry.
-/
import Derived.Test.YtmjjedbdedemcaaDoorChecked
import GoSem.Claim
import GoSem.ClaimJoined
import GoSem.ClaimMapViews
import Derived.JoinedTies
import Derived.KernelRfl
namespace Go.Proofs.YtmjjedbdedemcaaDoor
/- THE CELL 'sum', in the pinned program and in every row, IS THE sha256 OF THE DUMP (.gsa) THAT YtmjjedbdedemcaaDoorProg.lean LOADS. Nothing in Lean hashes anything: it is a label: what it is worth is what the hold of that sum in a sandbox is worth. -/
noncomputable def Tryd.pinned : Pinned := { name := "ytmjjedbdedemcaadoor", sum := "ca963a2d707fde500069fd3fba8fe654516cd7b432dec0f628e512b72ccbcad7", checked := Tryd.checked }
namespace Rows
def none {H : Type} : Left H := { results := [], args := [] }

/- WHAT THE LISTED PACKAGE-LEVEL VARIABLES READ AS WHEN THE CALL BEGINS. Each datum BY PROGRAM (the guide's laid-datum.mjs) off the statement by which the dump's own 'gosem.cut.vars' lays the variable. In a bare row this is a premise. The card (YtmjjedbdedemcaaDoorCards.lean) ties it to the program's text. -/
def laid_math_bits_deBruijn64tab {H : Type} : DataW H := .agg [.lit (.int .u8 0), .lit (.int .u8 1), .lit (.int .u8 56), .lit (.int .u8 2), .lit (.int .u8 57), .lit (.int .u8 49), .lit (.int .u8 28), .lit (.int .u8 3), .lit (.int .u8 61), .lit (.int .u8 58), .lit (.int .u8 42), .lit (.int .u8 50), .lit (.int .u8 38), .lit (.int .u8 29), .lit (.int .u8 17), .lit (.int .u8 4), .lit (.int .u8 62), .lit (.int .u8 47), .lit (.int .u8 59), .lit (.int .u8 36), .lit (.int .u8 45), .lit (.int .u8 43), .lit (.int .u8 51), .lit (.int .u8 22), .lit (.int .u8 53), .lit (.int .u8 39), .lit (.int .u8 33), .lit (.int .u8 30), .lit (.int .u8 24), .lit (.int .u8 18), .lit (.int .u8 12), .lit (.int .u8 5), .lit (.int .u8 63), .lit (.int .u8 55), .lit (.int .u8 48), .lit (.int .u8 27), .lit (.int .u8 60), .lit (.int .u8 41), .lit (.int .u8 37), .lit (.int .u8 16), .lit (.int .u8 46), .lit (.int .u8 35), .lit (.int .u8 44), .lit (.int .u8 21), .lit (.int .u8 52), .lit (.int .u8 32), .lit (.int .u8 23), .lit (.int .u8 11), .lit (.int .u8 54), .lit (.int .u8 26), .lit (.int .u8 40), .lit (.int .u8 15), .lit (.int .u8 34), .lit (.int .u8 20), .lit (.int .u8 31), .lit (.int .u8 10), .lit (.int .u8 25), .lit (.int .u8 14), .lit (.int .u8 19), .lit (.int .u8 9), .lit (.int .u8 13), .lit (.int .u8 8), .lit (.int .u8 7), .lit (.int .u8 6)]
def laid_tidepole_crc_nibbles {H : Type} : DataW H := .agg [.lit (.int .u32 0), .lit (.int .u32 274646895), .lit (.int .u32 549293790), .lit (.int .u32 820201905), .lit (.int .u32 1098587580), .lit (.int .u32 1361435347), .lit (.int .u32 1640403810), .lit (.int .u32 1905808397), .lit (.int .u32 2197175160), .lit (.int .u32 2460548119), .lit (.int .u32 2722870694), .lit (.int .u32 2987750089), .lit (.int .u32 3280807620), .lit (.int .u32 3553878443), .lit (.int .u32 3811616794), .lit (.int .u32 4084100981)]
def laid_tidepole_stamp_classes {H : Type} : DataW H := .agg [.agg [.lit (.int .u64 0), .lit (.int .i64 1), .lit (.int .i64 0)], .agg [.lit (.int .u64 2), .lit (.int .i64 2), .lit (.int .i64 7)], .agg [.lit (.int .u64 6), .lit (.int .i64 3), .lit (.int .i64 12)], .agg [.lit (.int .u64 14), .lit (.int .i64 4), .lit (.int .i64 20)], .agg [.lit (.int .u64 15), .lit (.int .i64 4), .lit (.int .i64 48)]]

/-- 'tidepolelaw08.ChunkBack': WHATEVER THE INPUT: true; the input reads as it did. -/
def chunkBackSpec : ChangeSpec := { name := "chunkBack", fn := fun _ => fun
  | [d1, d2, d3, d4] => { results := [.lit (.bool true)], args := [d1, d2, d3, d4] }
  | _ => none }
def chunkBackRow : OpenClaim := { program := "ytmjjedbdedemcaadoor", sum := "ca963a2d707fde500069fd3fba8fe654516cd7b432dec0f628e512b72ccbcad7", func := "tidepole/tidepolelaw08.ChunkBack", spec := "chunkBack", unfollowed := true, recurses := true, named := ["tidepole/stamp.classes", "math/bits.deBruijn64tab", "tidepole/crc.nibbles"], apart := false, laid := [("math/bits.deBruijn64tab", laid_math_bits_deBruijn64tab), ("tidepole/crc.nibbles", laid_tidepole_crc_nibbles), ("tidepole/stamp.classes", laid_tidepole_stamp_classes)] }
def ChunkBackSaid : Prop := chunkBackRow.holds Tryd.pinned (OpenSpec.ofChange chunkBackSpec)

/-- ITS FALSE NEIGHBOUR: 'it returns false'. Refute it at one input. -/
def chunkBackWrong : ChangeSpec := { name := "chunkBack", fn := fun _ => fun
  | [d1, d2, d3, d4] => { results := [.lit (.bool false)], args := [d1, d2, d3, d4] }
  | _ => none }
def ChunkBackWrongFalsely : Prop := chunkBackRow.holds Tryd.pinned (OpenSpec.ofChange chunkBackWrong)

/-- 'tidepolelaw08.ChunkOnce': WHATEVER THE INPUT: true; the input reads as it did. -/
def chunkOnceSpec : ChangeSpec := { name := "chunkOnce", fn := fun _ => fun
  | [d] => { results := [.lit (.bool true)], args := [d] }
  | _ => none }
def chunkOnceRow : OpenClaim := { program := "ytmjjedbdedemcaadoor", sum := "ca963a2d707fde500069fd3fba8fe654516cd7b432dec0f628e512b72ccbcad7", func := "tidepole/tidepolelaw08.ChunkOnce", spec := "chunkOnce", unfollowed := true, recurses := true, named := ["tidepole/stamp.classes", "math/bits.deBruijn64tab", "tidepole/crc.nibbles"], apart := false, laid := [("math/bits.deBruijn64tab", laid_math_bits_deBruijn64tab), ("tidepole/crc.nibbles", laid_tidepole_crc_nibbles), ("tidepole/stamp.classes", laid_tidepole_stamp_classes)] }
def ChunkOnceSaid : Prop := chunkOnceRow.holds Tryd.pinned (OpenSpec.ofChange chunkOnceSpec)

/-- ITS FALSE NEIGHBOUR: 'it returns false'. Refute it at one input. -/
def chunkOnceWrong : ChangeSpec := { name := "chunkOnce", fn := fun _ => fun
  | [d] => { results := [.lit (.bool false)], args := [d] }
  | _ => none }
def ChunkOnceWrongFalsely : Prop := chunkOnceRow.holds Tryd.pinned (OpenSpec.ofChange chunkOnceWrong)

/-- 'tidepolelaw08.ChunkMerges': WHATEVER THE INPUT: true; the input reads as it did. -/
def chunkMergesSpec : ChangeSpec := { name := "chunkMerges", fn := fun _ => fun
  | [d1, d2, d3, d4, d5, d6] => { results := [.lit (.bool true)], args := [d1, d2, d3, d4, d5, d6] }
  | _ => none }
def chunkMergesRow : OpenClaim := { program := "ytmjjedbdedemcaadoor", sum := "ca963a2d707fde500069fd3fba8fe654516cd7b432dec0f628e512b72ccbcad7", func := "tidepole/tidepolelaw08.ChunkMerges", spec := "chunkMerges", unfollowed := true, recurses := true, named := ["tidepole/stamp.classes", "math/bits.deBruijn64tab", "tidepole/crc.nibbles"], apart := false, laid := [("math/bits.deBruijn64tab", laid_math_bits_deBruijn64tab), ("tidepole/crc.nibbles", laid_tidepole_crc_nibbles), ("tidepole/stamp.classes", laid_tidepole_stamp_classes)] }
def ChunkMergesSaid : Prop := chunkMergesRow.holds Tryd.pinned (OpenSpec.ofChange chunkMergesSpec)

/-- ITS FALSE NEIGHBOUR: 'it returns false'. Refute it at one input. -/
def chunkMergesWrong : ChangeSpec := { name := "chunkMerges", fn := fun _ => fun
  | [d1, d2, d3, d4, d5, d6] => { results := [.lit (.bool false)], args := [d1, d2, d3, d4, d5, d6] }
  | _ => none }
def ChunkMergesWrongFalsely : Prop := chunkMergesRow.holds Tryd.pinned (OpenSpec.ofChange chunkMergesWrong)

/- THE SECOND FORM. 'bulk': how many values and letters a reading holds, each counted each time it is reached (what is shared counts as often as it is met; a slice's spare places count too). A statement '..UptoSaid' is the law's where the arguments, and the package variables that the reading takes, are together of bulk at most 1048576: NARROWER than '..Said'. Prove '..Said' where nothing that the law and all that it calls make is longer than what came in: it says more and counts as full. Else prove '..UptoSaid'. A law counts once. -/
mutual
def uptoBulk {H : Type} : DataW H → Nat
  | .lit (.string bytes) => bytes.length + 1
  | .lit _ => 1
  | .nil => 1
  | .ptr d => uptoBulk d + 1
  | .slice elems spare => uptoBulkAll elems + uptoBulkAll spare + 1
  | .agg parts => uptoBulkAll parts + 1
  | .iface _ d => uptoBulk d + 1
  | .map entries => uptoBulkEntries entries + 1
  | .held _ => 1
def uptoBulkAll {H : Type} : List (DataW H) → Nat
  | [] => 0
  | d :: r => uptoBulk d + uptoBulkAll r
def uptoBulkEntries {H : Type} : List (Lit × DataW H) → Nat
  | [] => 0
  | x :: r => uptoBulkEntry x + uptoBulkEntries r
def uptoBulkEntry {H : Type} : Lit × DataW H → Nat
  | (.string bytes, d) => bytes.length + uptoBulk d + 1
  | (_, d) => uptoBulk d + 1
 end
def uptoSmall : (H : Type) → List (DataW H) → Bool := fun _ ds => decide (uptoBulkAll ds ≤ 1048576)
def OpenSpec.upto (s : _root_.Go.ChangeSpec) : _root_.Go.OpenSpec := { _root_.Go.OpenSpec.ofChange s with cond := some uptoSmall }

/-- 'tidepolelaw08.ChunkBack', WHERE WHAT IT READS IS OF BULK AT MOST 1048576: true; the input reads as it did. -/
def chunkBackUptoRow : OpenClaim := { program := "ytmjjedbdedemcaadoor", sum := "ca963a2d707fde500069fd3fba8fe654516cd7b432dec0f628e512b72ccbcad7", func := "tidepole/tidepolelaw08.ChunkBack", spec := "chunkBack", unfollowed := true, recurses := true, named := ["tidepole/stamp.classes", "math/bits.deBruijn64tab", "tidepole/crc.nibbles"], apart := false, laid := [("math/bits.deBruijn64tab", laid_math_bits_deBruijn64tab), ("tidepole/crc.nibbles", laid_tidepole_crc_nibbles), ("tidepole/stamp.classes", laid_tidepole_stamp_classes)], narrowed := true }
def ChunkBackUptoSaid : Prop := chunkBackUptoRow.holds Tryd.pinned (OpenSpec.upto chunkBackSpec)

/-- 'tidepolelaw08.ChunkOnce', WHERE WHAT IT READS IS OF BULK AT MOST 1048576: true; the input reads as it did. -/
def chunkOnceUptoRow : OpenClaim := { program := "ytmjjedbdedemcaadoor", sum := "ca963a2d707fde500069fd3fba8fe654516cd7b432dec0f628e512b72ccbcad7", func := "tidepole/tidepolelaw08.ChunkOnce", spec := "chunkOnce", unfollowed := true, recurses := true, named := ["tidepole/stamp.classes", "math/bits.deBruijn64tab", "tidepole/crc.nibbles"], apart := false, laid := [("math/bits.deBruijn64tab", laid_math_bits_deBruijn64tab), ("tidepole/crc.nibbles", laid_tidepole_crc_nibbles), ("tidepole/stamp.classes", laid_tidepole_stamp_classes)], narrowed := true }
def ChunkOnceUptoSaid : Prop := chunkOnceUptoRow.holds Tryd.pinned (OpenSpec.upto chunkOnceSpec)

/-- 'tidepolelaw08.ChunkMerges', WHERE WHAT IT READS IS OF BULK AT MOST 1048576: true; the input reads as it did. -/
def chunkMergesUptoRow : OpenClaim := { program := "ytmjjedbdedemcaadoor", sum := "ca963a2d707fde500069fd3fba8fe654516cd7b432dec0f628e512b72ccbcad7", func := "tidepole/tidepolelaw08.ChunkMerges", spec := "chunkMerges", unfollowed := true, recurses := true, named := ["tidepole/stamp.classes", "math/bits.deBruijn64tab", "tidepole/crc.nibbles"], apart := false, laid := [("math/bits.deBruijn64tab", laid_math_bits_deBruijn64tab), ("tidepole/crc.nibbles", laid_tidepole_crc_nibbles), ("tidepole/stamp.classes", laid_tidepole_stamp_classes)], narrowed := true }
def ChunkMergesUptoSaid : Prop := chunkMergesUptoRow.holds Tryd.pinned (OpenSpec.upto chunkMergesSpec)

end Rows
end Go.Proofs.YtmjjedbdedemcaaDoor
