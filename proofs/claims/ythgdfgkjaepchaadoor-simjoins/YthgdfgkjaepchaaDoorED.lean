/-
  Check, by the reference, of any instructions.
-/
import Derived.Test.YthgdfgkjaepchaaDoorDR
namespace Go.Proofs.YthgdfgkjaepchaaDoor
open Go.RowKit Go.Shelf Go.Lib
set_option linter.unusedVariables false
set_option linter.unusedSimpArgs false

section
variable {S : Nat → Prop} {w0 w w' : World} {L : List Ent} {ops : Array Oper} {rest : List Oper} {a : Act} {Q : Exit → Act → World → Prop} {dst : Option Nat} {x y : Operand} {ty : TypeId} {pos : String} {after : Array Edge}
theorem wl_allocI (H : St S w0 w L) (h : ∀ g w', St S w0 w' ((true, g, 52, insA ins0) :: L) → w0.heap.size ≤ g → w.heap.size ≤ g → wpList Tryd.prog ops Q rest (a.put dst (.pointer (some ⟨g, 0, none⟩))) w') : wpList Tryd.prog ops Q (⟨dst, .alloc 52, ty, pos, after, none⟩ :: rest) a w :=
  wl_alloc 52 _ H (fun w => run_allocI _ _ _ _ _ w) h
theorem wl_storeI (i : Nat) (H : St S w0 w L) {g : Nat} {p q : Ins} (h : L[i]? = some (true, g, 52, insA p)) (hx : a.eval x = .pointer (some ⟨g, 0, none⟩)) (hy : a.eval y = insV q)
    (k : ∀ w', St S w0 w' (L.set i (true, g, 52, insA q)) → wpList Tryd.prog ops Q rest a w') : wpList Tryd.prog ops Q (⟨none, .store 52 x y, ty, pos, after, none⟩ :: rest) a w :=
  wl_store i 52 H h hx hy sizeI rfl (insA_all q) k
end
theorem chk_bad {L : List Ins} {k : Nat} {i : Ins} (h : L[k]? = some i) (hf : fitI i L.length = false) : chkI L = 110 := by
  unfold chkI
  split
  · rfl
  · rw [if_neg]
    intro ha
    rw [List.all_eq_true] at ha
    rw [ha i (List.mem_of_getElem? h)] at hf
    cases hf
theorem chk_good {L : List Ins} (h1 : 1 ≤ L.length) (h2 : L.length ≤ 2048) (h : ∀ k i, k < L.length → L[k]? = some i → fitI i L.length = true) : chkI L = 0 := by
  unfold chkI
  rw [if_neg (by omega), if_pos]
  rw [List.all_eq_true]
  intro i hi
  obtain ⟨k, hk⟩ := List.getElem?_of_mem hi
  exact h k i (List.getElem?_eq_some_iff.1 hk).1 hk
theorem fit_no {i : Ins} {n : Nat} (h : i.op < 1 ∨ 4 < i.op) : fitI i n = false := by
  unfold fitI
  have h1 : (i.op == 1) = false := by simp; omega
  have h2 : (i.op == 2) = false := by simp; omega
  have h3 : (i.op == 3) = false := by simp; omega
  have h4 : (i.op == 4) = false := by simp; omega
  rw [h1, h2, h3, h4]
  rfl
theorem fit1 (s : S4) (x y : Int) (n : Nat) : fitI ⟨1, s, x, y⟩ n = (inB x (n : Int) && inB y 1) := by simp [fitI, fm, bnd]
theorem fit2 (s : S4) (x y : Int) (n : Nat) : fitI ⟨2, s, x, y⟩ n = (eqS s noSet && (inB x (n : Int) && inB y (n : Int))) := by simp [fitI, fm, bnd]
theorem fit3 (s : S4) (x y : Int) (n : Nat) : fitI ⟨3, s, x, y⟩ n = (eqS s noSet && (inB x 1 && inB y 1)) := by simp [fitI, fm, bnd]
theorem fit4 (s : S4) (x y : Int) (n : Nat) : fitI ⟨4, s, x, y⟩ n = (eqS s noSet && (inB x (n : Int) && inB y 1)) := by simp [fitI, fm, bnd]
theorem inB1 {z : Int} (h : ¬ z = 0) : inB z 1 = false := by simp [inB]; omega
end Go.Proofs.YthgdfgkjaepchaaDoor
