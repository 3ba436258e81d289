/-
  Laws for arrays of 32 numbers: made, laid, written and read whole.
-/
import Derived.Test.YtmfllalmnhkakaaDoorM
import Derived.Deep.RegionHeld3
namespace Go.Proofs.YtmfllalmnhkakaaDoor
open Go.RowKit
set_option linter.unusedVariables false

def zeros : Nat → Nat := fun _ => 0
section
variable {w : World} {ops : Array Oper} {rest : List Oper} {o : Oper} {a : Act} {Q : Exit → Act → World → Prop}
theorem built51 : (Tryd.prog.built 51 []) = some (arr .u32 32 zeros) := by kernel_rfl
theorem wpList_build51 (hg : o.guard = none) (ho : o.op = .build 51 #[]) (h : wpList Tryd.prog ops Q rest (a.put o.dst (.agg (arr .u32 32 zeros))) w) : wpList Tryd.prog ops Q (o :: rest) a w := by
  have e : (Tryd.prog.built 51 ((#[] : Array (Nat × Operand)).map fun (i, x) => (i, a.eval x)).toList) = some (arr .u32 32 zeros) := by
    simp only [List.map_toArray, List.map_nil]; exact built51
  refine wpList_build hg 51 #[] ho (by rw [e]; rfl) ?_
  rw [e]
  exact h
theorem wpList_alloc51 (hg : o.guard = none) (ho : o.op = .alloc 51) (h : wpList Tryd.prog ops Q rest (a.put o.dst (.pointer (some ⟨w.heap.size, 0, none⟩))) (w.alloc (.cells (arr .u32 32 zeros) 51))) : wpList Tryd.prog ops Q (o :: rest) a w := by
  refine wpList_plain hg fun K hK => ?_
  have hrun : (execOp a.eval o).run Tryd.prog w = .ok (.value (.pointer (some ⟨w.heap.size, 0, none⟩))) (w.alloc (.cells (arr .u32 32 zeros) 51)) := by
    unfold execOp
    rw [ho]
    kernel_rfl
  unfold Oper.wp
  rw [hrun, Oper.upon_value]
  exact hK _ _ h
theorem wpList_store51 (hg : o.guard = none) (x y : Operand) (ho : o.op = .store 51 x y) (g : Nat) (f f' : Nat → Nat) (hx : a.eval x = .pointer (some ⟨g, 0, none⟩)) (hy : a.eval y = .agg (arr .u32 32 f'))
    (hA : Arr w g 51 .u32 32 f)
    (h : ∀ w', w'.heap.size = w.heap.size → Arr w' g 51 .u32 32 f' → (∀ B w0, B ≤ g → Below B w0 w → Below B w0 w') → wpList Tryd.prog ops Q rest (a.put o.dst undef) w') : wpList Tryd.prog ops Q (o :: rest) a w := by
  refine wpList_store_row hg 51 x y ho g _ hx hy 51 _ hA (by rw [arr_size]; exact info51) (by rw [arr_size, arr_size]) (arr_one _ _ _) ?_
  exact h _ (size_setRow _ _ _) (hA.setRow _) (fun B w0 hB h0 => below_setRow h0 hB _)
theorem wpList_load51 (hg : o.guard = none) (x : Operand) (ho : o.op = .load 51 x) (g : Nat) (f : Nat → Nat) (hx : a.eval x = .pointer (some ⟨g, 0, none⟩)) (hA : Arr w g 51 .u32 32 f)
    (h : wpList Tryd.prog ops Q rest (a.put o.dst (.agg (arr .u32 32 f))) w) : wpList Tryd.prog ops Q (o :: rest) a w :=
  wpList_load_row hg 51 x ho g hx 51 _ (0, 0) _ hA Tryd.underlying51 rfl (by rw [arr_size]; exact info51) h
end
end Go.Proofs.YtmfllalmnhkakaaDoor
