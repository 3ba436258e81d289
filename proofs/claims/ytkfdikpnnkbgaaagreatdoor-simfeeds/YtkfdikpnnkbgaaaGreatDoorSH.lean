/-
  A set and a list of numbers in memory, between two steps of stand.
-/
import Derived.Test.YtkfdikpnnkbgaaaGreatDoorSC
import Derived.Test.YtkfdikpnnkbgaaaGreatDoorDD
import Derived.Test.YtkfdikpnnkbgaaaGreatDoorFB
namespace Go.Proofs.YtkfdikpnnkbgaaaGreatDoor
open Go.RowKit Go.Shelf
set_option linter.unusedVariables false
set_option linter.unusedSimpArgs false

/-- The set W lies in block g, behind pre; the box g6 holds the list q, whose row's block is in R; since w0 nothing has turned but g. -/
structure SI (w0 : World) (g g6 : Nat) (t : TypeId) (pre : Array Value) (R : Nat → Prop) (W : List Nat) (q : List Int) (w : World) : Prop where
  but : But (fun k => k = g) w0 w
  set : w.heap[g]? = some (.cells (pA pre W) t (0, 0))
  gl : g < w0.heap.size
  n6 : w0.heap.size ≤ g6
  row : ∃ gr cur v, w.heap[g6]? = some (.cells #[v] 54 (0, 0)) ∧ w.heap[gr]? = some (.cells cur 3 (0, 0)) ∧ QuP v gr cur q ∧ w0.heap.size ≤ gr ∧ gr ≠ g6 ∧ R gr
section
variable {w0 w w' : World} {g g6 : Nat} {t : TypeId} {pre : Array Value} {R R' : Nat → Prop} {W : List Nat} {q : List Int}
theorem SI.mono (h : SI w0 g g6 t pre R W q w) (hR : ∀ k, k < w.heap.size → R k → R' k) : SI w0 g g6 t pre R' W q w := by
  obtain ⟨gr, cur, v, h1, h2, h3, h4, h5, h6⟩ := h.row
  exact ⟨h.but, h.set, h.gl, h.n6, gr, cur, v, h1, h2, h3, h4, h5, hR gr (Array.getElem?_eq_some_iff.1 h2).1 h6⟩
/-- Blocks that are cells lie as they lay. -/
theorem SI.kept (h : SI w0 g g6 t pre R W q w) (hb : But (fun _ => False) w0 w0 → But (fun k => k = g) w0 w') (hk : ∀ (k : Nat) (cs : Array Value) (t : TypeId), w.heap[k]? = some (.cells cs t (0, 0)) → w'.heap[k]? = some (.cells cs t (0, 0))) : SI w0 g g6 t pre R W q w' := by
  obtain ⟨gr, cur, v, h1, h2, h3, h4, h5, h6⟩ := h.row
  exact ⟨hb (But.refl _ _), hk _ _ _ h.set, h.gl, h.n6, gr, cur, v, hk _ _ _ h1, hk _ _ _ h2, h3, h4, h5, h6⟩
theorem SI.below (h : SI w0 g g6 t pre R W q w) (hb : Below w.heap.size w w') : SI w0 g g6 t pre R W q w' :=
  h.kept (fun _ => h.but.trans (T := fun _ => False) ⟨hb.os, hb.tape, hb.output, hb.size, fun k hk _ => hb.block k hk⟩ (fun _ _ h => h.elim)) (fun k cs t e => (hb.block k (Array.getElem?_eq_some_iff.1 e).1).trans e)
theorem SI.own {B : Nat} {row : Option Nat} (h : SI w0 g g6 t pre R W q w) (hB : w0.heap.size ≤ B) (hg : w.grownBy w' row) (hr : ∀ r, row = some r → B ≤ r ∧ ∃ o : Obj, w.heap[r]? = some o ∧ o.isCells = false) : SI w0 g g6 t pre R W q w' := by
  refine h.kept (fun _ => h.but.grown hg (fun k e hk => by have := (hr k e).1; omega)) (fun k cs t e => (hg.block k (Array.getElem?_eq_some_iff.1 e).1 (fun e2 => ?_)).trans e)
  obtain ⟨_, o, ho, hc⟩ := hr k e2.symm
  rw [e] at ho
  cases ho
  cases hc
theorem SI.drew (h : SI w0 g g6 t pre R W q w) : SI w0 g g6 t pre R W q w.drew := h.kept (fun _ => h.but.drew) (fun _ _ _ e => e)
/-- The box of the list is written. -/
theorem SI.box (h : SI w0 g g6 t pre R W q w) {q' : List Int} {v' : Value} (hq : ∀ gr cur v, w.heap[g6]? = some (.cells #[v] 54 (0, 0)) → w.heap[gr]? = some (.cells cur 3 (0, 0)) → QuP v gr cur q → QuP v' gr cur q') : SI w0 g g6 t pre R W q' (w.setCell ⟨g6, 0, none⟩ v') := by
  obtain ⟨gr, cur, v, h1, h2, h3, h4, h5, h6⟩ := h.row
  have hn := h.n6
  have hl := h.gl
  have ot : ∀ k, k ≠ g6 → (w.setCell ⟨g6, 0, none⟩ v').heap[k]? = w.heap[k]? := fun k hk => Below.heap_setCell w ⟨g6, 0, none⟩ _ k hk
  refine ⟨h.but.trans (T := fun k => k = g6) ⟨rfl, rfl, rfl, by simp [World.setCell], fun k _ hk => ot k hk⟩ (fun i hi e => by omega), (ot g (by omega)).trans h.set, h.gl, h.n6, gr, cur, v', heap_setCell_same w g6 0 _ 54 _ h1, (ot gr h5).trans h2, hq gr cur v h1 h2 h3, h4, h5, h6⟩
/-- The set is turned. -/
theorem SI.turn (h : SI w0 g g6 t pre R W q w) {W' : List Nat} (hb : But (fun k => k = g) w w') (hs : w'.heap[g]? = some (.cells (pA pre W') t (0, 0))) : SI w0 g g6 t pre R W' q w' := by
  obtain ⟨gr, cur, v, h1, h2, h3, h4, h5, h6⟩ := h.row
  have hn := h.n6
  have hl := h.gl
  exact ⟨h.but.trans hb (fun _ _ h => h), hs, h.gl, h.n6, gr, cur, v, (hb.block g6 (Array.getElem?_eq_some_iff.1 h1).1 (by omega)).trans h1, (hb.block gr (Array.getElem?_eq_some_iff.1 h2).1 (by omega)).trans h2, h3, h4, h5, h6⟩
/-- A number is put behind the list. -/
theorem SI.push (h : SI w0 g g6 t pre R W q w) (hR : ∀ k, w.heap.size ≤ k → R k) (hl : q.length ≤ 10000) (z : Int) (ty : TypeId) :
    ∃ v v' w', w.heap[g6]? = some (.cells #[v] 54 (0, 0)) ∧ (Builtin.append_ #[54, 54] ty #[v, .slice (some ⟨w.heap.size, 0, none⟩) 1 1]).run Tryz.prog (w.alloc (.cells #[.int .i64 z] 3)) = .ok v' w' ∧ w'.heap[g6]? = some (.cells #[v] 54 (0, 0)) ∧ v'.oneCell' = true ∧
      SI w0 g g6 t pre R W (q ++ [z]) (w'.setCell ⟨g6, 0, none⟩ v') ∧ But (fun k => k = g6 ∨ R k ∧ ∃ cur, w.heap[k]? = some (.cells cur 3 (0, 0))) w (w'.setCell ⟨g6, 0, none⟩ v') := by
  obtain ⟨gr, cur, v, h1, h2, h3, h4, h5, h6⟩ := h.row
  have hn := h.n6
  have hgl := h.gl
  have l6 := (Array.getElem?_eq_some_iff.1 h1).1
  have lr := (Array.getElem?_eq_some_iff.1 h2).1
  have lg := (Array.getElem?_eq_some_iff.1 h.set).1
  have H : St (fun k => k = gr ∨ k = g6) w w [(true, gr, 3, cur), (true, g6, 54, #[v])] := by
    refine ⟨But.refl _ _, fun x hx => ?_, fun x hx _ _ => ?_, by simp [h5]⟩
    · rcases List.mem_cons.1 hx with rfl | hx
      · exact h2
      · rw [List.mem_singleton.1 hx]; exact h1
    · rcases List.mem_cons.1 hx with rfl | hx
      · exact .inl rfl
      · rw [List.mem_singleton.1 hx]; exact .inr rfl
  obtain ⟨v', w', gr', cur', hr, H2, Q2⟩ := run_push H h3 hl z ty
  have g0 := H2.get 0 rfl
  have g1 := H2.get 1 rfl
  have hne : gr' ≠ g6 := by have := H2.nd; simpa using this
  have hold : gr' < w.heap.size → gr' = gr := fun hl => by
    rcases H2.ok _ (List.mem_of_getElem? (i := 0) rfl) rfl hl with h | h
    · exact h
    · exact (hne h).elim
  have ot : ∀ k, k ≠ g6 → (w'.setCell ⟨g6, 0, none⟩ v').heap[k]? = w'.heap[k]? := fun k hk => Below.heap_setCell w' ⟨g6, 0, none⟩ _ k hk
  have hB : But (fun k => k = gr ∨ k = g6) w (w'.setCell ⟨g6, 0, none⟩ v') := H2.but.trans (T := fun k => k = g6) ⟨rfl, rfl, rfl, by simp [World.setCell], fun k _ hk => ot k hk⟩ (fun i _ e => .inr e)
  have hq6 : R gr' ∧ w0.heap.size ≤ gr' ∧ gr' ≠ g := by
    by_cases hlt : gr' < w.heap.size
    · rw [hold hlt]; exact ⟨h6, h4, by omega⟩
    · exact ⟨hR _ (by omega), by have := h.but.size; omega, by omega⟩
  refine ⟨v, v', w', h1, hr, g1, by obtain ⟨_, _, rfl, _⟩ := Q2.ex; rfl, ⟨h.but.trans hB (fun i hi e => by omega), ?_, h.gl, h.n6, gr', cur', v', heap_setCell_same w' g6 0 _ 54 _ g1, (ot gr' hne).trans g0, Q2, hq6.2.1, hne, hq6.1⟩, hB.mono (fun k e => ?_)⟩
  · exact (hB.block g lg (by omega)).trans h.set
  · rcases e with rfl | rfl
    · exact .inr ⟨h6, cur, h2⟩
    · exact .inl rfl
theorem SI.at (h : SI w0 g g6 t pre R W q w) : ∃ gr, SI w0 g g6 t pre (fun k => k = gr) W q w ∧ w0.heap.size ≤ gr ∧ gr < w.heap.size ∧ gr ≠ g6 ∧ ∃ cur, w.heap[gr]? = some (.cells cur 3 (0, 0)) := by
  obtain ⟨gr, cur, v, h1, h2, h3, h4, h5, h6⟩ := h.row
  exact ⟨gr, ⟨h.but, h.set, h.gl, h.n6, gr, cur, v, h1, h2, h3, h4, h5, rfl⟩, h4, (Array.getElem?_eq_some_iff.1 h2).1, h5, cur, h2⟩
/-- The last one of a list. -/
theorem QuP.last {v : Value} {g : Nat} {cur : Array Value} {z : Int} {q : List Int} (h : QuP v g cur (q ++ [z])) : ∃ o c, v = .slice (some ⟨g, o, none⟩) (q.length + 1) c ∧ cur[o + q.length]? = some (.int .i64 z) ∧ q.length + 1 ≤ c ∧ QuP (.slice (some ⟨g, o, none⟩) q.length c) g cur q := by
  obtain ⟨o, c, rfl, h1, h2, h3⟩ := h.ex
  simp only [List.length_append, List.length_cons, List.length_nil] at h2 ⊢
  refine ⟨o, c, rfl, h3 q.length z (by simp), h2, ⟨o, c, rfl, h1, by omega, fun i u hi => h3 i u ?_⟩⟩
  rw [List.getElem?_append_left (List.getElem?_eq_some_iff.1 hi).1]
  exact hi
theorem QuP.empty {v : Value} {g : Nat} {cur : Array Value} (h : QuP v g cur []) : ∃ o c, v = .slice (some ⟨g, o, none⟩) 0 c := by
  obtain ⟨o, c, rfl, _⟩ := h.ex
  exact ⟨o, c, rfl⟩
end
theorem ld60 {w : World} {ad : Addr} {v : Value} (h : w.cell? ad = some v) : (loadVar 54 ad).run Tryz.prog w = .ok v w := by
  have ha : ∀ w, (isAgg 54).run Tryz.prog w = .ok false w := fun w => by kernel_rfl
  simp [loadVar, ha, go_sem, h]
theorem run_st60 {w : World} {g : Nat} {u v : Value} (h : w.heap[g]? = some (.cells #[u] 54 (0, 0))) (hv : v.oneCell' = true) : (storeVar 54 ⟨g, 0, none⟩ v).run Tryz.prog w = .ok () (w.setCell ⟨g, 0, none⟩ v) := by
  have hc := cell_row h 0 (v := u) rfl
  have hf := frozen_of_row w g 0 _ 54 h
  have hcs : v.cells = #[v] := by cases v <;> first | rfl | cases hv
  have e : (storeCells ⟨g, 0, none⟩ [v]).run Tryz.prog w = .ok () (w.setCell ⟨g, 0, none⟩ v) := by simp [storeCells, go_sem, run_store Tryz.prog w _ v _ hv, stored, hc, hf]
  have o60 : ∀ w, (sizeOf 54).run Tryz.prog w = .ok 1 w := fun w => by kernel_rfl
  unfold storeVar
  simp only [Sem.run_bind, o60, Result.andThen_ok, hcs]
  simpa using e
section
variable {F : Fence} {n : Nat} {w0 w w' : World} {ops : Array Oper} {rest : List Oper} {a : Act} {Q : Exit → Act → World → Prop} {dst : Option Nat} {x y : Operand} {ty : TypeId} {pos : String} {after : Array Edge}
theorem atI_push {d1 d2 : Nat} {s p : Operand} {ty2 ty3 : TypeId} {pos2 pos3 : String} {after2 after3 : Array Edge} (h : wpListIn F n Tryz.prog ops Q (⟨some d1, .buildSlice 54 1 #[(0, x)], ty, pos, after, none⟩ :: ⟨some d2, .call { callee := .builtin .append, args := #[s, .tmp d1], argTypes := #[54, 54] }, ty2, pos2, after2, none⟩ :: ⟨none, .store 54 p (.tmp d2), ty3, pos3, after3, none⟩ :: rest) a w) : wpListIn F n Tryz.prog ops Q (⟨some d1, .buildSlice 54 1 #[(0, x)], ty, pos, after, none⟩ :: ⟨some d2, .call { callee := .builtin .append, args := #[s, .tmp d1], argTypes := #[54, 54] }, ty2, pos2, after2, none⟩ :: ⟨none, .store 54 p (.tmp d2), ty3, pos3, after3, none⟩ :: rest) a w := h
/-- A number is put behind a list that a box holds. -/
theorem wlI_push {d1 d2 : Nat} {s p : Operand} {ty2 ty3 : TypeId} {pos2 pos3 : String} {after2 after3 : Array Edge} (hF : ∀ f, F.fn f) {v v' : Value} {g6 : Nat} {z : Int}
    (hr : (Builtin.append_ #[54, 54] ty2 #[v, .slice (some ⟨w.heap.size, 0, none⟩) 1 1]).run Tryz.prog (w.alloc (.cells #[.int .i64 z] 3)) = .ok v' w') (h6 : w'.heap[g6]? = some (.cells #[v] 54 (0, 0))) (hv : v'.oneCell' = true)
    (hx : a.eval x = .int .i64 z) (hs : ∀ u, (a.put (some d1) u).eval s = v) (ht : ∀ u, (a.put (some d1) u).eval (.tmp d1) = u) (hp : ∀ u u', ((a.put (some d1) u).put (some d2) u').eval p = .pointer (some ⟨g6, 0, none⟩)) (ht2 : ∀ u u', ((a.put (some d1) u).put (some d2) u').eval (.tmp d2) = u')
    (k : ∀ u, wpListIn F n Tryz.prog ops Q rest ((a.put (some d1) u).put (some d2) v') (w'.setCell ⟨g6, 0, none⟩ v')) :
    wpListIn F n Tryz.prog ops Q (⟨some d1, .buildSlice 54 1 #[(0, x)], ty, pos, after, none⟩ :: ⟨some d2, .call { callee := .builtin .append, args := #[s, .tmp d1], argTypes := #[54, 54] }, ty2, pos2, after2, none⟩ :: ⟨none, .store 54 p (.tmp d2), ty3, pos3, after3, none⟩ :: rest) a w := by
  have hbs : (Instr.buildSlice 54 1 #[(0, .int .i64 z)]).run Tryz.prog w = .ok (.slice (some ⟨w.heap.size, 0, none⟩) 1 1) (w.alloc (.cells #[.int .i64 z] 3)) := by kernel_rfl
  refine wlI_val hF (fun c => nofun) (w' := w.alloc (.cells #[.int .i64 z] 3)) (v := .slice (some ⟨w.heap.size, 0, none⟩) 1 1) ?_ ?_
  · unfold execOp
    simp only [List.map_toArray, List.map_cons, List.map_nil, hx, Sem.run_bind, hbs, Result.andThen_ok, Sem.run_pure]
  · refine wlI_val hF (fun c => nofun) (w' := w') (v := v') ?_ ?_
    · simp [execOp, resolve, invoke, builtin, hs, ht, hr, Result.andThen]
    · refine wlI_skip hF (fun c => nofun) (w' := w'.setCell ⟨g6, 0, none⟩ v') ?_ (k _)
      unfold execOp
      simp only [hp, ht2, Instr.storeAt, Instr.sureAddr, Sem.run_bind, Sem.run_pure, Result.andThen_ok, run_st60 h6 hv]
theorem atI_begin {d1 d2 : Nat} {ty2 ty3 : TypeId} {pos2 pos3 : String} {after2 after3 : Array Edge} (h : wpListIn F n Tryz.prog ops Q (⟨some d1, .buildSlice 54 1 #[(0, x)], ty, pos, after, none⟩ :: ⟨some d2, .alloc 54, ty2, pos2, after2, none⟩ :: ⟨none, .store 54 (.tmp d2) (.tmp d1), ty3, pos3, after3, none⟩ :: rest) a w) : wpListIn F n Tryz.prog ops Q (⟨some d1, .buildSlice 54 1 #[(0, x)], ty, pos, after, none⟩ :: ⟨some d2, .alloc 54, ty2, pos2, after2, none⟩ :: ⟨none, .store 54 (.tmp d2) (.tmp d1), ty3, pos3, after3, none⟩ :: rest) a w := h
/-- A list of one number, in a box. -/
theorem wlI_begin {d1 d2 : Nat} {ty2 ty3 : TypeId} {pos2 pos3 : String} {after2 after3 : Array Edge} (hF : ∀ f, F.fn f) {z : Int} (hx : a.eval x = .int .i64 z) (ht1 : ∀ u u', ((a.put (some d1) u).put (some d2) u').eval (.tmp d1) = u) (ht2 : ∀ u u', ((a.put (some d1) u).put (some d2) u').eval (.tmp d2) = u')
    (k : ∀ gr g6 w', w'.heap[g6]? = some (.cells #[.slice (some ⟨gr, 0, none⟩) 1 1] 54 (0, 0)) → w'.heap[gr]? = some (.cells #[.int .i64 z] 3 (0, 0)) → Below w.heap.size w w' → w.heap.size ≤ gr → w.heap.size ≤ g6 → gr ≠ g6 → wpListIn F n Tryz.prog ops Q rest ((a.put (some d1) (.slice (some ⟨gr, 0, none⟩) 1 1)).put (some d2) (.pointer (some ⟨g6, 0, none⟩))) w') :
    wpListIn F n Tryz.prog ops Q (⟨some d1, .buildSlice 54 1 #[(0, x)], ty, pos, after, none⟩ :: ⟨some d2, .alloc 54, ty2, pos2, after2, none⟩ :: ⟨none, .store 54 (.tmp d2) (.tmp d1), ty3, pos3, after3, none⟩ :: rest) a w := by
  have hbs : (Instr.buildSlice 54 1 #[(0, .int .i64 z)]).run Tryz.prog w = .ok (.slice (some ⟨w.heap.size, 0, none⟩) 1 1) (w.alloc (.cells #[.int .i64 z] 3)) := by kernel_rfl
  have hal : ∀ (ev : Operand → Value) (w1 : World), (execOp ev ⟨some d2, .alloc 54, ty2, pos2, after2, none⟩).run Tryz.prog w1 = .ok (.value (.pointer (some ⟨w1.heap.size, 0, none⟩))) (w1.alloc (.cells #[.slice none 0 0] 54)) := fun ev w1 => by
    unfold execOp
    kernel_rfl
  have H := ((St.start Nope w).alloc 3 #[.int .i64 z]).alloc 54 #[.slice none 0 0]
  have h6 := H.get 0 rfl
  have H2 := H.setCell 0 rfl 0 (.slice (some ⟨w.heap.size, 0, none⟩) 1 1)
  have q6 := H2.get 0 rfl
  have qr := H2.get 1 rfl
  have nd := H2.nd
  refine wlI_val hF (fun c => nofun) (w' := w.alloc (.cells #[.int .i64 z] 3)) (v := .slice (some ⟨w.heap.size, 0, none⟩) 1 1) ?_ ?_
  · unfold execOp
    simp only [List.map_toArray, List.map_cons, List.map_nil, hx, Sem.run_bind, hbs, Result.andThen_ok, Sem.run_pure]
  · refine wlI_val hF (fun c => nofun) (hal _ _) ?_
    refine wlI_skip hF (fun c => nofun) ?_ (k w.heap.size (w.alloc (.cells #[.int .i64 z] 3)).heap.size _ q6 qr H2.below (Nat.le_refl _) (by simp) (by simp))
    unfold execOp
    simp only [ht1, ht2, Instr.storeAt, Instr.sureAddr, Sem.run_bind, Sem.run_pure, Result.andThen_ok, run_st60 h6 (v := .slice (some ⟨w.heap.size, 0, none⟩) 1 1) rfl]
end
end Go.Proofs.YtkfdikpnnkbgaaaGreatDoor
