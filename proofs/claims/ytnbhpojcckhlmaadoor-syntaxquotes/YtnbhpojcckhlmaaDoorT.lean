/-
  The parser, Parse.
-/
import Derived.Test.YtnbhpojcckhlmaaDoorS
namespace Go.Proofs.YtnbhpojcckhlmaaDoor
open Go.RowKit
set_option linter.unusedVariables false
set_option linter.unusedSimpArgs false

section
variable {S : Nat → Prop} {w0 w : World} {L : List Ent} {ops : Array Oper} {rest : List Oper} {a : Act} {Q : Exit → Act → World → Prop} {dst : Option Nat} {x y : Operand} {ty : TypeId} {pos : String} {after : Array Edge}
/-- A box is made, and it is known where. -/
theorem wl_allocE (t : TypeId) (zs : Array Value) (H : St S w0 w L) {g : Nat} (hg : w.heap.size = g) (hz : ∀ w, (execOp a.eval ⟨dst, .alloc t, ty, pos, after, none⟩).run Tryd.prog w = .ok (.value (.pointer (some ⟨w.heap.size, 0, none⟩))) (w.alloc (.cells zs t)))
    (h : ∀ w', St S w0 w' ((true, g, t, zs) :: L) → w'.heap.size = g + 1 → wpList Tryd.prog ops Q rest (a.put dst (.pointer (some ⟨g, 0, none⟩))) w') : wpList Tryd.prog ops Q (⟨dst, .alloc t, ty, pos, after, none⟩ :: rest) a w := by
  subst hg
  refine wpList_plain rfl fun K hK => ?_
  unfold Oper.wp
  rw [hz, Oper.upon_value]
  exact hK _ _ (h _ (H.alloc t zs) (by simp))
theorem run_alloc3 (w : World) : (execOp a.eval ⟨dst, .alloc 3, ty, pos, after, none⟩).run Tryd.prog w = .ok (.value (.pointer (some ⟨w.heap.size, 0, none⟩))) (w.alloc (.cells #[.int .i64 0] 3)) := by
  unfold execOp
  kernel_rfl
theorem run_alloc4 (w : World) : (execOp a.eval ⟨dst, .alloc 4, ty, pos, after, none⟩).run Tryd.prog w = .ok (.value (.pointer (some ⟨w.heap.size, 0, none⟩))) (w.alloc (.cells #[.bool false] 4)) := by
  unfold execOp
  kernel_rfl
theorem run_alloc59 (w : World) : (execOp a.eval ⟨dst, .alloc 59, ty, pos, after, none⟩).run Tryd.prog w = .ok (.value (.pointer (some ⟨w.heap.size, 0, none⟩))) (w.alloc (.cells #[.nilFunc] 59)) := by
  unfold execOp
  kernel_rfl
theorem run_alloc70 (w : World) : (execOp a.eval ⟨dst, .alloc 70, ty, pos, after, none⟩).run Tryd.prog w = .ok (.value (.pointer (some ⟨w.heap.size, 0, none⟩))) (w.alloc (.cells #[.nilFunc] 70)) := by
  unfold execOp
  kernel_rfl
theorem wl_box9 (H : St S w0 w L) {s : ByteArray} (hx : a.eval x = .string s) {g : Nat} (hg : w.heap.size = g)
    (h : ∀ w', St S w0 w' ((true, g, 9, #[.string s]) :: L) → w'.heap.size = g + 1 → wpList Tryd.prog ops Q rest (a.put dst (.pointer (some ⟨g, 0, none⟩))) w') : wpList Tryd.prog ops Q (⟨dst, .box 9 x, ty, pos, after, none⟩ :: rest) a w := by
  subst hg
  refine wpList_plain rfl fun K hK => ?_
  have e : (execOp a.eval ⟨dst, .box 9 x, ty, pos, after, none⟩).run Tryd.prog w = .ok (.value (.pointer (some ⟨w.heap.size, 0, none⟩))) (w.alloc (.cells #[.string s] 9)) := by
    unfold execOp
    simp only [hx]
    kernel_rfl
  unfold Oper.wp
  rw [e, Oper.upon_value]
  exact hK _ _ (h _ (H.alloc 9 _) (by simp))
theorem wl_storeS (i : Nat) (ty' : TypeId) (H : St S w0 w L) {t : TypeId} {g : Nat} {u v : Value} (h : L[i]? = some (true, g, t, #[u])) (hx : a.eval x = .pointer (some ⟨g, 0, none⟩)) (hy : a.eval y = v) (hi : ∀ w, (sizeOf ty').run Tryd.prog w = .ok 1 w) (h1 : v.oneCell' = true) {z : Nat} (hz : w.heap.size = z)
    (k : ∀ w', St S w0 w' (L.set i (true, g, t, #[v])) → w'.heap.size = z → wpList Tryd.prog ops Q rest a w') : wpList Tryd.prog ops Q (⟨none, .store ty' x y, ty, pos, after, none⟩ :: rest) a w := by
  refine wpList_plain rfl fun K hK => ?_
  have h2 := H.setCell i h 0 v
  have hc : w.cell? ⟨g, 0, none⟩ = some u := H.cell i 0 h rfl
  have hf := H.fz i 0 h
  have hcs : v.cells = #[v] := by cases v <;> first | rfl | cases h1
  have hst : (storeVar ty' ⟨g, 0, none⟩ v).run Tryd.prog w = .ok () (w.setCell ⟨g, 0, none⟩ v) := by
    have e : (storeCells ⟨g, 0, none⟩ [v]).run Tryd.prog w = .ok () (w.setCell ⟨g, 0, none⟩ v) := by simp [storeCells, go_sem, run_store Tryd.prog w _ v _ h1, stored, hc, hf]
    unfold storeVar
    simp only [Sem.run_bind, hi, Result.andThen_ok, hcs]
    simpa using e
  unfold Oper.wp execOp
  simp only [hx, hy, Instr.storeAt, Instr.sureAddr, Sem.run_bind, Sem.run_pure, Result.andThen_ok, hst]
  exact hK _ _ (k _ h2 (by rw [← hz]; simp [World.setCell]))
end
set_option maxHeartbeats 8000000 in
theorem parser_any (s : ByteArray) (w : World) (n : Nat) (hz : w.heap.size = n) : Calls Tryd.prog 19 #[.string s] w fun e w' => e = .returned (.func (.func 37) #[] #[.pointer (some ⟨n + 4, 0, none⟩), .pointer (some ⟨n + 1, 0, none⟩), .pointer (some ⟨n + 3, 0, none⟩), .pointer (some ⟨n, 0, none⟩)]) ∧ Ev w' n s 0 0 true ∧ Below n w w' := by
  have hmf : ∀ (fn : Fn) (first cap : Array Value) (w : World), (Instr.makeFunc fn first cap).run Tryd.prog w = .ok (.func fn first cap) w := fun _ _ _ _ => rfl
  have H := St.start Nope w
  have hz0 := hide hz
  go_enter Tryd.func19, Tryd.ntmps19
  go_wp2_with (first | (with_reducible refine at_box 9 ?_; refine wl_box9 H rfl hz ?_; clear H hz; intro w' H hz) | (with_reducible refine at_alloc 3 ?_; refine wl_allocE 3 _ H hz (fun w => run_alloc3 w) ?_; clear H hz; intro w' H hz) | (with_reducible refine at_alloc 4 ?_; refine wl_allocE 4 _ H hz (fun w => run_alloc4 w) ?_; clear H hz; intro w' H hz) | (with_reducible refine at_alloc 59 ?_; refine wl_allocE 59 _ H hz (fun w => run_alloc59 w) ?_; clear H hz; intro w' H hz) | (with_reducible refine at_store 3 ?_; first | (refine wl_storeS 1 3 H rfl rfl rfl one3 rfl hz ?_; clear H hz; intro w' H hz) | (refine wl_storeS 2 3 H rfl rfl rfl one3 rfl hz ?_; clear H hz; intro w' H hz)) | (with_reducible refine at_store 4 ?_; first | (refine wl_storeS 0 4 H rfl rfl rfl one4 rfl hz ?_; clear H hz; intro w' H hz)) | (with_reducible refine at_store 59 ?_; first | (refine wl_storeS 0 59 H rfl rfl rfl one59 rfl hz ?_; clear H hz; intro w' H hz) | (refine wl_storeS 4 59 H rfl rfl rfl one59 rfl hz ?_; clear H hz; intro w' H hz)))
  go_ret
  refine ⟨rfl, fun x hx => ?_, by rw [← hz0.out]; exact H.below⟩
  simp only [env, List.mem_cons, List.not_mem_nil, or_false] at hx
  rcases hx with rfl | rfl | rfl | rfl | rfl | rfl | rfl | rfl | rfl
  · exact H.get (b := true) 7 rfl
  · exact H.get (b := true) 6 rfl
  · exact H.get (b := true) 5 rfl
  · exact H.get (b := true) 8 rfl
  · exact H.get (b := true) 4 rfl
  · exact H.get (b := true) 3 rfl
  · exact H.get (b := true) 2 rfl
  · exact H.get (b := true) 1 rfl
  · exact H.get (b := true) 0 rfl
end Go.Proofs.YtnbhpojcckhlmaaDoor
