/-
  Arguments that are kept; a row of bools that is made; a queue that is begun.
-/
import Derived.Test.YtkgegjnkkbgghaaDoorFB
import Derived.Test.YtkgegjnkkbgghaaDoorEH
namespace Go.Proofs.YtkgegjnkkbgghaaDoor
open Go.RowKit
set_option linter.unusedVariables false
set_option linter.unusedSimpArgs false

theorem ArgR.kept {w w' : World} (hb : Below w.heap.size w w') : ∀ {d : Nat} {cs : List Value}, ArgR w d cs → ArgR w' d cs
  | 0, _, h => h
  | d + 1, cs, ⟨k, s, a, n, c, mn, mx, e, h1, h2⟩ => ⟨k, s, a, n, c, mn, mx, e, h1, fun hp => by
      obtain ⟨b, off, e1, e2, e3⟩ := h2 hp
      refine ⟨b, off, e1, by have := hb.size; omega, fun i hi => ?_⟩
      obtain ⟨cs', f1, f2, f3⟩ := e3 i hi
      exact ⟨cs', f1, fun j u hj => (hb.cell (p := ⟨b, off + i * 8 + j, none⟩) e2).trans (f2 j u hj), ArgR.kept hb f3⟩⟩
theorem info4 : ∃ i, Tryd.prog.info? 4 = some i ∧ i.zero = some (.bool false) ∧ i.size = 1 ∧ i.bytes = 1 := by
  have h : (Tryd.prog.info? 4).map (fun i => (i.zero, i.size, i.bytes)) = some (some (.bool false), 1, 1) := by kernel_rfl
  cases hi : Tryd.prog.info? 4 with
  | none => rw [hi] at h; cases h
  | some i =>
    rw [hi] at h
    simp only [Option.map_some, Option.some.injEq, Prod.mk.injEq] at h
    exact ⟨i, rfl, h.1, h.2.1, h.2.2⟩
/-- Bools as cells. -/
def bolA (B : List Bool) : Array Value := (B.map Value.bool).toArray
theorem bolA_size (B : List Bool) : (bolA B).size = B.length := by simp [bolA]
theorem bolA_at {B : List Bool} {k : Nat} {b : Bool} (h : B[k]? = some b) : (bolA B)[k]? = some (.bool b) := by simp [bolA, h]
theorem bolA_set (B : List Bool) (k : Nat) (b : Bool) : (bolA B).setIfInBounds k (.bool b) = bolA (B.set k b) := by
  simp [bolA, List.map_set]
theorem made4 (n : Nat) : madeCells (Value.bool false).cells (n * 1) = bolA (List.replicate n false) := by
  apply Array.ext'
  apply List.ext_getElem?
  intro j
  by_cases hj : j < n
  · simp [madeCells, hj, bolA, Value.cells, Nat.mod_one]
  · rw [List.getElem?_eq_none (by simp [madeCells]; omega), List.getElem?_eq_none (by simp [bolA]; omega)]
section
variable {S : Nat → Prop} {w0 w w' : World} {L : List Ent} {ops : Array Oper} {rest : List Oper} {o : Oper} {a : Act} {Q : Exit → Act → World → Prop} {dst : Option Nat} {x y : Operand} {ty : TypeId} {pos : String} {after : Array Edge}
theorem wl_make47 {n : Nat} (hn : n ≤ 1000000) (hx : a.eval x = .int .i64 (n : Int)) (hy : a.eval y = .int .i64 (n : Int)) (k : ∀ g w2, g = w.heap.size → w2.heap[g]? = some (.cells (bolA (List.replicate n false)) 4 (0, 0)) → w2.heap.size = w.heap.size + 1 → Below w.heap.size w w2 → wpList Tryd.prog ops Q rest (a.put dst (.slice (some ⟨g, 0, none⟩) n n)) w2) :
    wpList Tryd.prog ops Q (⟨dst, .makeSlice 47 x y, ty, pos, after, none⟩ :: rest) a w := by
  obtain ⟨i, hi, hz, hs, hb⟩ := info4
  have hr := run_make (P := Tryd.prog) w 47 4 i (.bool false) Tryd.underlying47 hi hz .i64 .i64 (n : Int) (n : Int) (by omega) (Int.le_refl _) (by rw [hb]; omega) (by omega)
  refine wl_val (w' := w.alloc (.cells (madeCells (Value.bool false).cells (n * 1)) 4)) ?_ (k _ _ rfl (by rw [heap_alloc_new, ← made4 n]) (by simp) ((Below.refl _ w).alloc (Nat.le_refl _) _))
  unfold execOp
  simp only [hx, hy, Sem.run_bind, hr, Result.andThen_ok, Sem.run_pure, Int.toNat_natCast, hs]
theorem run_bs48o (z : Int) (w : World) : (Instr.buildSlice 48 1 #[(0, .int .i64 z)]).run Tryd.prog w = .ok (.slice (some ⟨w.heap.size, 0, none⟩) 1 1) (w.alloc (.cells #[.int .i64 z] 3)) := by kernel_rfl
theorem at_bs48o {n : Nat} {ps : Array (Nat × Operand)} (h : wpList Tryd.prog ops Q (⟨dst, .buildSlice 48 n ps, ty, pos, after, none⟩ :: rest) a w) : wpList Tryd.prog ops Q (⟨dst, .buildSlice 48 n ps, ty, pos, after, none⟩ :: rest) a w := h
theorem wl_bs48o (H : St S w0 w L) {z : Int} (hx : a.eval x = .int .i64 z) (k : ∀ g w', St S w0 w' ((true, g, 3, #[.int .i64 z]) :: L) → wpList Tryd.prog ops Q rest (a.put dst (.slice (some ⟨g, 0, none⟩) 1 1)) w') : wpList Tryd.prog ops Q (⟨dst, .buildSlice 48 1 #[(0, x)], ty, pos, after, none⟩ :: rest) a w := by
  refine wl_val (w' := w.alloc (.cells #[.int .i64 z] 3)) ?_ (k _ _ (H.alloc 3 _))
  unfold execOp
  simp only [List.map_toArray, List.map_cons, List.map_nil, hx, Sem.run_bind, run_bs48o, Result.andThen_ok, Sem.run_pure]
theorem at_push {d1 d2 : Nat} {s : Operand} {ty2 : TypeId} {pos2 : String} {after2 : Array Edge} (h : wpList Tryd.prog ops Q (⟨some d1, .buildSlice 48 1 #[(0, x)], ty, pos, after, none⟩ :: ⟨some d2, .call { callee := .builtin .append, args := #[s, .tmp d1], argTypes := #[48, 48] }, ty2, pos2, after2, none⟩ :: rest) a w) : wpList Tryd.prog ops Q (⟨some d1, .buildSlice 48 1 #[(0, x)], ty, pos, after, none⟩ :: ⟨some d2, .call { callee := .builtin .append, args := #[s, .tmp d1], argTypes := #[48, 48] }, ty2, pos2, after2, none⟩ :: rest) a w := h
/-- A number is put behind a queue. -/
theorem wl_push {d1 d2 : Nat} {s : Operand} {ty2 : TypeId} {pos2 : String} {after2 : Array Edge} {g gs : Nat} {cur xs : Array Value} {ts : TypeId} {v : Value} {q : List Int} {z : Int} (H : St S w0 w [(true, g, 3, cur), (true, gs, ts, xs)]) (hq : QuP v g cur q) (hl : q.length ≤ 10000) (hs : ∀ u, (a.put (some d1) u).eval s = v) (ht : ∀ u, (a.put (some d1) u).eval (.tmp d1) = u) (hx : a.eval x = .int .i64 z)
    (k : ∀ u v2 w2 g2 cur2, St S w0 w2 [(true, g2, 3, cur2), (true, gs, ts, xs)] → QuP v2 g2 cur2 (q ++ [z]) → wpList Tryd.prog ops Q rest ((a.put (some d1) u).put (some d2) v2) w2) :
    wpList Tryd.prog ops Q (⟨some d1, .buildSlice 48 1 #[(0, x)], ty, pos, after, none⟩ :: ⟨some d2, .call { callee := .builtin .append, args := #[s, .tmp d1], argTypes := #[48, 48] }, ty2, pos2, after2, none⟩ :: rest) a w := by
  obtain ⟨v2, w2, g2, cur2, hr, H2, Q2⟩ := run_push H hq hl z ty2
  refine wl_val (w' := w.alloc (.cells #[.int .i64 z] 3)) (v := .slice (some ⟨w.heap.size, 0, none⟩) 1 1) ?_ ?_
  · unfold execOp
    simp only [List.map_toArray, List.map_cons, List.map_nil, hx, Sem.run_bind, run_bs48o, Result.andThen_ok, Sem.run_pure]
  · refine wl_val (w' := w2) (v := v2) ?_ (k _ v2 w2 g2 cur2 H2 Q2)
    simp [execOp, resolve, invoke, builtin, hs, ht, hr, Result.andThen]
end
end Go.Proofs.YtkgegjnkkbgghaaDoor
