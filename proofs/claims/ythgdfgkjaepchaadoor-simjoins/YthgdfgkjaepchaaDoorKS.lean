/-
  A set and a list of numbers in memory, between two steps of stand. The last number of a list is taken off it (a region that draws its order). stand: an instruction, and all to which it leads on, are put into a set. Whether a byte is in a set; a runner: whether it is made, dead; its beginning; what is wrong with a program and a text. led's iterator: one step of it (a region that draws its order). led, and its iterator: where a byte leads from where a program stands.
-/
import Derived.Test.YthgdfgkjaepchaaDoorSC
import Derived.Test.YthgdfgkjaepchaaDoorDD
import Derived.Test.YthgdfgkjaepchaaDoorFB
import Derived.Test.YthgdfgkjaepchaaDoorDC
import Derived.Test.YthgdfgkjaepchaaDoorSG
import Derived.Test.YthgdfgkjaepchaaDoorDE
import Derived.Test.YthgdfgkjaepchaaDoorSD
import Derived.Test.YthgdfgkjaepchaaDoorSA
namespace Go.Proofs.YthgdfgkjaepchaaDoor
open Go.RowKit Go.Shelf
set_option linter.unusedVariables false
set_option linter.unusedSimpArgs false

/-- The set W lies in block g, behind pre; the box g6 holds the list q, whose row's block is in R; since w0 nothing has turned but g. -/
structure SI (w0 : World) (g g6 : Nat) (t : TypeId) (pre : Array Value) (R : Nat → Prop) (W : List Nat) (q : List Int) (w : World) : Prop where
  but : But (fun k => k = g) w0 w
  set : w.heap[g]? = some (.cells (pA pre W) t (0, 0))
  gl : g < w0.heap.size
  n6 : w0.heap.size ≤ g6
  row : ∃ gr cur v, w.heap[g6]? = some (.cells #[v] 60 (0, 0)) ∧ w.heap[gr]? = some (.cells cur 3 (0, 0)) ∧ QuP v gr cur q ∧ w0.heap.size ≤ gr ∧ gr ≠ g6 ∧ R gr
section
variable {w0 w w' : World} {g g6 : Nat} {t : TypeId} {pre : Array Value} {R R' : Nat → Prop} {W : List Nat} {q : List Int}
theorem SI.mono (h : SI w0 g g6 t pre R W q w) (hR : ∀ k, k < w.heap.size → R k → R' k) : SI w0 g g6 t pre R' W q w := by
  obtain ⟨gr, cur, v, h1, h2, h3, h4, h5, h6⟩ := h.row
  exact ⟨h.but, h.set, h.gl, h.n6, gr, cur, v, h1, h2, h3, h4, h5, hR gr (Array.getElem?_eq_some_iff.1 h2).1 h6⟩
/-- Blocks that are cells lie as they lay. -/
theorem SI.kept (h : SI w0 g g6 t pre R W q w) (hb : But (fun _ => False) w0 w0 → But (fun k => k = g) w0 w') (hk : ∀ (k : Nat) (cs : Array Value) (t : TypeId), w.heap[k]? = some (.cells cs t (0, 0)) → w'.heap[k]? = some (.cells cs t (0, 0))) : SI w0 g g6 t pre R W q w' := by
  obtain ⟨gr, cur, v, h1, h2, h3, h4, h5, h6⟩ := h.row
  exact ⟨hb (But.refl _ _), hk _ _ _ h.set, h.gl, h.n6, gr, cur, v, hk _ _ _ h1, hk _ _ _ h2, h3, h4, h5, h6⟩
theorem SI.below (h : SI w0 g g6 t pre R W q w) (hb : Below w.heap.size w w') : SI w0 g g6 t pre R W q w' :=
  h.kept (fun _ => h.but.trans (T := fun _ => False) ⟨hb.os, hb.tape, hb.output, hb.size, fun k hk _ => hb.block k hk⟩ (fun _ _ h => h.elim)) (fun k cs t e => (hb.block k (Array.getElem?_eq_some_iff.1 e).1).trans e)
theorem SI.own {B : Nat} {row : Option Nat} (h : SI w0 g g6 t pre R W q w) (hB : w0.heap.size ≤ B) (hg : w.grownBy w' row) (hr : ∀ r, row = some r → B ≤ r ∧ ∃ o : Obj, w.heap[r]? = some o ∧ o.isCells = false) : SI w0 g g6 t pre R W q w' := by
  refine h.kept (fun _ => h.but.grown hg (fun k e hk => by have := (hr k e).1; omega)) (fun k cs t e => (hg.block k (Array.getElem?_eq_some_iff.1 e).1 (fun e2 => ?_)).trans e)
  obtain ⟨_, o, ho, hc⟩ := hr k e2.symm
  rw [e] at ho
  cases ho
  cases hc
theorem SI.drew (h : SI w0 g g6 t pre R W q w) : SI w0 g g6 t pre R W q w.drew := h.kept (fun _ => h.but.drew) (fun _ _ _ e => e)
/-- The box of the list is written. -/
theorem SI.box (h : SI w0 g g6 t pre R W q w) {q' : List Int} {v' : Value} (hq : ∀ gr cur v, w.heap[g6]? = some (.cells #[v] 60 (0, 0)) → w.heap[gr]? = some (.cells cur 3 (0, 0)) → QuP v gr cur q → QuP v' gr cur q') : SI w0 g g6 t pre R W q' (w.setCell ⟨g6, 0, none⟩ v') := by
  obtain ⟨gr, cur, v, h1, h2, h3, h4, h5, h6⟩ := h.row
  have hn := h.n6
  have hl := h.gl
  have ot : ∀ k, k ≠ g6 → (w.setCell ⟨g6, 0, none⟩ v').heap[k]? = w.heap[k]? := fun k hk => Below.heap_setCell w ⟨g6, 0, none⟩ _ k hk
  refine ⟨h.but.trans (T := fun k => k = g6) ⟨rfl, rfl, rfl, by simp [World.setCell], fun k _ hk => ot k hk⟩ (fun i hi e => by omega), (ot g (by omega)).trans h.set, h.gl, h.n6, gr, cur, v', heap_setCell_same w g6 0 _ 60 _ h1, (ot gr h5).trans h2, hq gr cur v h1 h2 h3, h4, h5, h6⟩
/-- The set is turned. -/
theorem SI.turn (h : SI w0 g g6 t pre R W q w) {W' : List Nat} (hb : But (fun k => k = g) w w') (hs : w'.heap[g]? = some (.cells (pA pre W') t (0, 0))) : SI w0 g g6 t pre R W' q w' := by
  obtain ⟨gr, cur, v, h1, h2, h3, h4, h5, h6⟩ := h.row
  have hn := h.n6
  have hl := h.gl
  exact ⟨h.but.trans hb (fun _ _ h => h), hs, h.gl, h.n6, gr, cur, v, (hb.block g6 (Array.getElem?_eq_some_iff.1 h1).1 (by omega)).trans h1, (hb.block gr (Array.getElem?_eq_some_iff.1 h2).1 (by omega)).trans h2, h3, h4, h5, h6⟩
/-- A number is put behind the list. -/
theorem SI.push (h : SI w0 g g6 t pre R W q w) (hR : ∀ k, w.heap.size ≤ k → R k) (hl : q.length ≤ 10000) (z : Int) (ty : TypeId) :
    ∃ v v' w', w.heap[g6]? = some (.cells #[v] 60 (0, 0)) ∧ (Builtin.append_ #[60, 60] ty #[v, .slice (some ⟨w.heap.size, 0, none⟩) 1 1]).run Tryd.prog (w.alloc (.cells #[.int .i64 z] 3)) = .ok v' w' ∧ w'.heap[g6]? = some (.cells #[v] 60 (0, 0)) ∧ v'.oneCell' = true ∧
      SI w0 g g6 t pre R W (q ++ [z]) (w'.setCell ⟨g6, 0, none⟩ v') ∧ But (fun k => k = g6 ∨ R k ∧ ∃ cur, w.heap[k]? = some (.cells cur 3 (0, 0))) w (w'.setCell ⟨g6, 0, none⟩ v') := by
  obtain ⟨gr, cur, v, h1, h2, h3, h4, h5, h6⟩ := h.row
  have hn := h.n6
  have hgl := h.gl
  have l6 := (Array.getElem?_eq_some_iff.1 h1).1
  have lr := (Array.getElem?_eq_some_iff.1 h2).1
  have lg := (Array.getElem?_eq_some_iff.1 h.set).1
  have H : St (fun k => k = gr ∨ k = g6) w w [(true, gr, 3, cur), (true, g6, 60, #[v])] := by
    refine ⟨But.refl _ _, fun x hx => ?_, fun x hx _ _ => ?_, by simp [h5]⟩
    · rcases List.mem_cons.1 hx with rfl | hx
      · exact h2
      · rw [List.mem_singleton.1 hx]; exact h1
    · rcases List.mem_cons.1 hx with rfl | hx
      · exact .inl rfl
      · rw [List.mem_singleton.1 hx]; exact .inr rfl
  obtain ⟨v', w', gr', cur', hr, H2, Q2⟩ := run_push H h3 hl z ty
  have g0 := H2.get 0 rfl
  have g1 := H2.get 1 rfl
  have hne : gr' ≠ g6 := by have := H2.nd; simpa using this
  have hold : gr' < w.heap.size → gr' = gr := fun hl => by
    rcases H2.ok _ (List.mem_of_getElem? (i := 0) rfl) rfl hl with h | h
    · exact h
    · exact (hne h).elim
  have ot : ∀ k, k ≠ g6 → (w'.setCell ⟨g6, 0, none⟩ v').heap[k]? = w'.heap[k]? := fun k hk => Below.heap_setCell w' ⟨g6, 0, none⟩ _ k hk
  have hB : But (fun k => k = gr ∨ k = g6) w (w'.setCell ⟨g6, 0, none⟩ v') := H2.but.trans (T := fun k => k = g6) ⟨rfl, rfl, rfl, by simp [World.setCell], fun k _ hk => ot k hk⟩ (fun i _ e => .inr e)
  have hq6 : R gr' ∧ w0.heap.size ≤ gr' ∧ gr' ≠ g := by
    by_cases hlt : gr' < w.heap.size
    · rw [hold hlt]; exact ⟨h6, h4, by omega⟩
    · exact ⟨hR _ (by omega), by have := h.but.size; omega, by omega⟩
  refine ⟨v, v', w', h1, hr, g1, by obtain ⟨_, _, rfl, _⟩ := Q2.ex; rfl, ⟨h.but.trans hB (fun i hi e => by omega), ?_, h.gl, h.n6, gr', cur', v', heap_setCell_same w' g6 0 _ 60 _ g1, (ot gr' hne).trans g0, Q2, hq6.2.1, hne, hq6.1⟩, hB.mono (fun k e => ?_)⟩
  · exact (hB.block g lg (by omega)).trans h.set
  · rcases e with rfl | rfl
    · exact .inr ⟨h6, cur, h2⟩
    · exact .inl rfl
theorem SI.at (h : SI w0 g g6 t pre R W q w) : ∃ gr, SI w0 g g6 t pre (fun k => k = gr) W q w ∧ w0.heap.size ≤ gr ∧ gr < w.heap.size ∧ gr ≠ g6 ∧ ∃ cur, w.heap[gr]? = some (.cells cur 3 (0, 0)) := by
  obtain ⟨gr, cur, v, h1, h2, h3, h4, h5, h6⟩ := h.row
  exact ⟨gr, ⟨h.but, h.set, h.gl, h.n6, gr, cur, v, h1, h2, h3, h4, h5, rfl⟩, h4, (Array.getElem?_eq_some_iff.1 h2).1, h5, cur, h2⟩
/-- The last one of a list. -/
theorem QuP.last {v : Value} {g : Nat} {cur : Array Value} {z : Int} {q : List Int} (h : QuP v g cur (q ++ [z])) : ∃ o c, v = .slice (some ⟨g, o, none⟩) (q.length + 1) c ∧ cur[o + q.length]? = some (.int .i64 z) ∧ q.length + 1 ≤ c ∧ QuP (.slice (some ⟨g, o, none⟩) q.length c) g cur q := by
  obtain ⟨o, c, rfl, h1, h2, h3⟩ := h.ex
  simp only [List.length_append, List.length_cons, List.length_nil] at h2 ⊢
  refine ⟨o, c, rfl, h3 q.length z (by simp), h2, ⟨o, c, rfl, h1, by omega, fun i u hi => h3 i u ?_⟩⟩
  rw [List.getElem?_append_left (List.getElem?_eq_some_iff.1 hi).1]
  exact hi
theorem QuP.empty {v : Value} {g : Nat} {cur : Array Value} (h : QuP v g cur []) : ∃ o c, v = .slice (some ⟨g, o, none⟩) 0 c := by
  obtain ⟨o, c, rfl, _⟩ := h.ex
  exact ⟨o, c, rfl⟩
end
theorem ld60 {w : World} {ad : Addr} {v : Value} (h : w.cell? ad = some v) : (loadVar 60 ad).run Tryd.prog w = .ok v w := by
  have ha : ∀ w, (isAgg 60).run Tryd.prog w = .ok false w := fun w => by kernel_rfl
  simp [loadVar, ha, go_sem, h]
theorem run_st60 {w : World} {g : Nat} {u v : Value} (h : w.heap[g]? = some (.cells #[u] 60 (0, 0))) (hv : v.oneCell' = true) : (storeVar 60 ⟨g, 0, none⟩ v).run Tryd.prog w = .ok () (w.setCell ⟨g, 0, none⟩ v) := by
  have hc := cell_row h 0 (v := u) rfl
  have hf := frozen_of_row w g 0 _ 60 h
  have hcs : v.cells = #[v] := by cases v <;> first | rfl | cases hv
  have e : (storeCells ⟨g, 0, none⟩ [v]).run Tryd.prog w = .ok () (w.setCell ⟨g, 0, none⟩ v) := by simp [storeCells, go_sem, run_store Tryd.prog w _ v _ hv, stored, hc, hf]
  have o60 : ∀ w, (sizeOf 60).run Tryd.prog w = .ok 1 w := fun w => by kernel_rfl
  unfold storeVar
  simp only [Sem.run_bind, o60, Result.andThen_ok, hcs]
  simpa using e
section
variable {F : Fence} {n : Nat} {w0 w w' : World} {ops : Array Oper} {rest : List Oper} {a : Act} {Q : Exit → Act → World → Prop} {dst : Option Nat} {x y : Operand} {ty : TypeId} {pos : String} {after : Array Edge}
theorem atI_push {d1 d2 : Nat} {s p : Operand} {ty2 ty3 : TypeId} {pos2 pos3 : String} {after2 after3 : Array Edge} (h : wpListIn F n Tryd.prog ops Q (⟨some d1, .buildSlice 60 1 #[(0, x)], ty, pos, after, none⟩ :: ⟨some d2, .call { callee := .builtin .append, args := #[s, .tmp d1], argTypes := #[60, 60] }, ty2, pos2, after2, none⟩ :: ⟨none, .store 60 p (.tmp d2), ty3, pos3, after3, none⟩ :: rest) a w) : wpListIn F n Tryd.prog ops Q (⟨some d1, .buildSlice 60 1 #[(0, x)], ty, pos, after, none⟩ :: ⟨some d2, .call { callee := .builtin .append, args := #[s, .tmp d1], argTypes := #[60, 60] }, ty2, pos2, after2, none⟩ :: ⟨none, .store 60 p (.tmp d2), ty3, pos3, after3, none⟩ :: rest) a w := h
/-- A number is put behind a list that a box holds. -/
theorem wlI_push {d1 d2 : Nat} {s p : Operand} {ty2 ty3 : TypeId} {pos2 pos3 : String} {after2 after3 : Array Edge} (hF : ∀ f, F.fn f) {v v' : Value} {g6 : Nat} {z : Int}
    (hr : (Builtin.append_ #[60, 60] ty2 #[v, .slice (some ⟨w.heap.size, 0, none⟩) 1 1]).run Tryd.prog (w.alloc (.cells #[.int .i64 z] 3)) = .ok v' w') (h6 : w'.heap[g6]? = some (.cells #[v] 60 (0, 0))) (hv : v'.oneCell' = true)
    (hx : a.eval x = .int .i64 z) (hs : ∀ u, (a.put (some d1) u).eval s = v) (ht : ∀ u, (a.put (some d1) u).eval (.tmp d1) = u) (hp : ∀ u u', ((a.put (some d1) u).put (some d2) u').eval p = .pointer (some ⟨g6, 0, none⟩)) (ht2 : ∀ u u', ((a.put (some d1) u).put (some d2) u').eval (.tmp d2) = u')
    (k : ∀ u, wpListIn F n Tryd.prog ops Q rest ((a.put (some d1) u).put (some d2) v') (w'.setCell ⟨g6, 0, none⟩ v')) :
    wpListIn F n Tryd.prog ops Q (⟨some d1, .buildSlice 60 1 #[(0, x)], ty, pos, after, none⟩ :: ⟨some d2, .call { callee := .builtin .append, args := #[s, .tmp d1], argTypes := #[60, 60] }, ty2, pos2, after2, none⟩ :: ⟨none, .store 60 p (.tmp d2), ty3, pos3, after3, none⟩ :: rest) a w := by
  have hbs : (Instr.buildSlice 60 1 #[(0, .int .i64 z)]).run Tryd.prog w = .ok (.slice (some ⟨w.heap.size, 0, none⟩) 1 1) (w.alloc (.cells #[.int .i64 z] 3)) := by kernel_rfl
  refine wlI_val hF (fun c => nofun) (w' := w.alloc (.cells #[.int .i64 z] 3)) (v := .slice (some ⟨w.heap.size, 0, none⟩) 1 1) ?_ ?_
  · unfold execOp
    simp only [List.map_toArray, List.map_cons, List.map_nil, hx, Sem.run_bind, hbs, Result.andThen_ok, Sem.run_pure]
  · refine wlI_val hF (fun c => nofun) (w' := w') (v := v') ?_ ?_
    · simp [execOp, resolve, invoke, builtin, hs, ht, hr, Result.andThen]
    · refine wlI_skip hF (fun c => nofun) (w' := w'.setCell ⟨g6, 0, none⟩ v') ?_ (k _)
      unfold execOp
      simp only [hp, ht2, Instr.storeAt, Instr.sureAddr, Sem.run_bind, Sem.run_pure, Result.andThen_ok, run_st60 h6 hv]
theorem atI_begin {d1 d2 : Nat} {ty2 ty3 : TypeId} {pos2 pos3 : String} {after2 after3 : Array Edge} (h : wpListIn F n Tryd.prog ops Q (⟨some d1, .buildSlice 60 1 #[(0, x)], ty, pos, after, none⟩ :: ⟨some d2, .alloc 60, ty2, pos2, after2, none⟩ :: ⟨none, .store 60 (.tmp d2) (.tmp d1), ty3, pos3, after3, none⟩ :: rest) a w) : wpListIn F n Tryd.prog ops Q (⟨some d1, .buildSlice 60 1 #[(0, x)], ty, pos, after, none⟩ :: ⟨some d2, .alloc 60, ty2, pos2, after2, none⟩ :: ⟨none, .store 60 (.tmp d2) (.tmp d1), ty3, pos3, after3, none⟩ :: rest) a w := h
/-- A list of one number, in a box. -/
theorem wlI_begin {d1 d2 : Nat} {ty2 ty3 : TypeId} {pos2 pos3 : String} {after2 after3 : Array Edge} (hF : ∀ f, F.fn f) {z : Int} (hx : a.eval x = .int .i64 z) (ht1 : ∀ u u', ((a.put (some d1) u).put (some d2) u').eval (.tmp d1) = u) (ht2 : ∀ u u', ((a.put (some d1) u).put (some d2) u').eval (.tmp d2) = u')
    (k : ∀ gr g6 w', w'.heap[g6]? = some (.cells #[.slice (some ⟨gr, 0, none⟩) 1 1] 60 (0, 0)) → w'.heap[gr]? = some (.cells #[.int .i64 z] 3 (0, 0)) → Below w.heap.size w w' → w.heap.size ≤ gr → w.heap.size ≤ g6 → gr ≠ g6 → wpListIn F n Tryd.prog ops Q rest ((a.put (some d1) (.slice (some ⟨gr, 0, none⟩) 1 1)).put (some d2) (.pointer (some ⟨g6, 0, none⟩))) w') :
    wpListIn F n Tryd.prog ops Q (⟨some d1, .buildSlice 60 1 #[(0, x)], ty, pos, after, none⟩ :: ⟨some d2, .alloc 60, ty2, pos2, after2, none⟩ :: ⟨none, .store 60 (.tmp d2) (.tmp d1), ty3, pos3, after3, none⟩ :: rest) a w := by
  have hbs : (Instr.buildSlice 60 1 #[(0, .int .i64 z)]).run Tryd.prog w = .ok (.slice (some ⟨w.heap.size, 0, none⟩) 1 1) (w.alloc (.cells #[.int .i64 z] 3)) := by kernel_rfl
  have hal : ∀ (ev : Operand → Value) (w1 : World), (execOp ev ⟨some d2, .alloc 60, ty2, pos2, after2, none⟩).run Tryd.prog w1 = .ok (.value (.pointer (some ⟨w1.heap.size, 0, none⟩))) (w1.alloc (.cells #[.slice none 0 0] 60)) := fun ev w1 => by
    unfold execOp
    kernel_rfl
  have H := ((St.start Nope w).alloc 3 #[.int .i64 z]).alloc 60 #[.slice none 0 0]
  have h6 := H.get 0 rfl
  have H2 := H.setCell 0 rfl 0 (.slice (some ⟨w.heap.size, 0, none⟩) 1 1)
  have q6 := H2.get 0 rfl
  have qr := H2.get 1 rfl
  have nd := H2.nd
  refine wlI_val hF (fun c => nofun) (w' := w.alloc (.cells #[.int .i64 z] 3)) (v := .slice (some ⟨w.heap.size, 0, none⟩) 1 1) ?_ ?_
  · unfold execOp
    simp only [List.map_toArray, List.map_cons, List.map_nil, hx, Sem.run_bind, hbs, Result.andThen_ok, Sem.run_pure]
  · refine wlI_val hF (fun c => nofun) (hal _ _) ?_
    refine wlI_skip hF (fun c => nofun) ?_ (k w.heap.size (w.alloc (.cells #[.int .i64 z] 3)).heap.size _ q6 qr H2.below (Nat.le_refl _) (by simp) (by simp))
    unfold execOp
    simp only [ht1, ht2, Instr.storeAt, Instr.sureAddr, Sem.run_bind, Sem.run_pure, Result.andThen_ok, run_st60 h6 (v := .slice (some ⟨w.heap.size, 0, none⟩) 1 1) rfl]
end
end Go.Proofs.YthgdfgkjaepchaaDoor
namespace Go.Proofs.YthgdfgkjaepchaaDoor
open Go.RowKit Go.Shelf
set_option linter.unusedVariables false
set_option linter.unusedSimpArgs false
attribute [local go_sem] Oper.semAt_some

set_option maxHeartbeats 4000000 in
set_option maxRecDepth 100000 in
theorem reg51_3 (n0 : Nat) (ds : List Deferred) (w : World) (g g6 o m c : Nat) (z : Int) (hm : m ≤ 100000) (ln : Nat) (hln : ln = m + 1) (hmc : m + 1 ≤ c) (h6 : w.heap[g6]? = some (.cells #[.slice (some ⟨g, o, none⟩) ln c] 60 (0, 0))) (hz : w.cell? ⟨g, o + m, none⟩ = some (.int .i64 z))
    (u0 u1 u2 u3 u4 u5 u8 u9 u10 u11 u12 u13 u14 u15 u16 u17 u18 u19 u20 u21 u22 u23 u24 u25 u26 u27 u28 u29 u30 u31 u32 u33 u34 u35 u36 : Value) (Q : Exit → Act → World → Prop)
    (h : Q .normal { tmps := (List.toArray ((u0 :: u1 :: .int .i64 z :: u3 :: u4 :: u5 :: .pointer (some ⟨g6, 0, none⟩) :: .int .i64 (m : Int) :: u8 :: u9 :: u10 :: u11 :: u12 :: u13 :: u14 :: u15 :: u16 :: .slice (some ⟨g, o, none⟩) ln c :: .int .i64 (m : Int) :: .pointer (some ⟨g, o + m, none⟩) :: .int .i64 z :: .slice (some ⟨g, o, none⟩) ln c :: .int .i64 (m : Int) :: .slice (some ⟨g, o, none⟩) m c :: u24 :: u25 :: u26 :: u27 :: u28 :: u29 :: u30 :: u31 :: u32 :: u33 :: u34 :: u35 :: u36 :: []) : List Value)), defers := ds } (w.drew.setCell ⟨g6, 0, none⟩ (.slice (some ⟨g, o, none⟩) m c))) :
    (Code.region 3 #[{ dst := some 17, op := Op.load 60 (Operand.tmp 6), type := 60, pos := "sim.go:159", after := #[], guard := none }, { dst := some 18, op := Op.move (Operand.tmp 7), type := 3, pos := "sim.go:159", after := #[], guard := none }, { dst := some 19, op := Op.indexAddr 60 (Operand.tmp 17) (Operand.tmp 18), type := 0, pos := "sim.go:159", after := #[{ on := 0, ground := Ground.data }, { on := 1, ground := Ground.data }], guard := none }, { dst := some 20, op := Op.load 3 (Operand.tmp 19), type := 3, pos := "sim.go:159", after := #[{ on := 2, ground := Ground.data }], guard := none }, { dst := some 21, op := Op.load 60 (Operand.tmp 6), type := 60, pos := "sim.go:159", after := #[], guard := none }, { dst := some 22, op := Op.move (Operand.tmp 7), type := 3, pos := "sim.go:159", after := #[], guard := none }, { dst := some 23, op := Op.slice 60 (Operand.tmp 21) none (some (Operand.tmp 22)) none, type := 60, pos := "sim.go:159", after := #[{ on := 4, ground := Ground.data }, { on := 5, ground := Ground.data }], guard := none }, { dst := some 2, op := Op.assign (Operand.tmp 20), type := 3, pos := "sim.go:159", after := #[{ on := 3, ground := Ground.data }, { on := 0, ground := Ground.phase }, { on := 1, ground := Ground.phase }, { on := 2, ground := Ground.phase }, { on := 3, ground := Ground.phase }, { on := 4, ground := Ground.textOnly Departure.lateStores }, { on := 5, ground := Ground.textOnly Departure.lateStores }, { on := 6, ground := Ground.textOnly Departure.lateStoresUnsure }], guard := none }, { dst := none, op := Op.store 60 (Operand.tmp 6) (Operand.tmp 23), type := 0, pos := "sim.go:159", after := #[{ on := 6, ground := Ground.data }, { on := 7, ground := Ground.chain }, { on := 0, ground := Ground.phase }, { on := 1, ground := Ground.phase }, { on := 2, ground := Ground.phase }, { on := 3, ground := Ground.phase }, { on := 4, ground := Ground.phase }, { on := 5, ground := Ground.phase }, { on := 6, ground := Ground.phase }, { on := 7, ground := Ground.phase }], guard := none }] true).wpIn Fence.wide n0 Tryd.prog Q { tmps := (List.toArray ((u0 :: u1 :: u2 :: u3 :: u4 :: u5 :: .pointer (some ⟨g6, 0, none⟩) :: .int .i64 (m : Int) :: u8 :: u9 :: u10 :: u11 :: u12 :: u13 :: u14 :: u15 :: u16 :: u17 :: u18 :: u19 :: u20 :: u21 :: u22 :: u23 :: u24 :: u25 :: u26 :: u27 :: u28 :: u29 :: u30 :: u31 :: u32 :: u33 :: u34 :: u35 :: u36 :: []) : List Value)), defers := ds } w := by
  have c6 := cell_row h6 0 (v := .slice (some ⟨g, o, none⟩) ln c) rfl
  have f6 := frozen_of_row w g6 0 _ 60 h6
  have i1 : (m : Int) < (ln : Int) := by omega
  have i2 : (m : Int) ≤ (c : Int) := by omega
  have i3 : ¬ (m : Int) < 0 := by omega
  replace h6 := hide h6
  replace hln := hide hln
  replace h := hide h
  refine Code.wpIn_mono NoPanic.imp ?_
  refine wpIn_region_any (by kernel_rfl) ?_
  change wpAnyIn _ _ _ _ _ _ _ _ _ (World.drew w)
  refine wpAnyIn_take (i := 1) (oi := { dst := some 18, op := Op.move (Operand.tmp 7), type := 3, pos := "sim.go:159", after := #[], guard := none }) (v := ?_) rfl rfl (by kernel_rfl) (by kernel_rfl) (by kernel_rfl) (fun _ _ _ h => h) ⟨Or.inl ⟨by rfl, ?_⟩, fun _ => rfl⟩ ?_
  rotate_left
  · intro w'
    go_simp
    try with_reducible rfl
  try simp only [Act.put, List.setIfInBounds_toArray, List.set_cons_zero, List.set_cons_succ]
  refine wpAnyIn_take (i := 5) (oi := { dst := some 22, op := Op.move (Operand.tmp 7), type := 3, pos := "sim.go:159", after := #[], guard := none }) (v := ?_) rfl rfl (by kernel_rfl) (by kernel_rfl) (by kernel_rfl) (fun _ _ _ h => h) ⟨Or.inl ⟨by rfl, ?_⟩, fun _ => rfl⟩ ?_
  rotate_left
  · intro w'
    go_simp
    try with_reducible rfl
  try simp only [Act.put, List.setIfInBounds_toArray, List.set_cons_zero, List.set_cons_succ]
  refine wpAnyIn_ready (rs := [0, 4]) (by kernel_rfl) (by simp) ?_
  refine (AllReadyIn.cons (o := { dst := some 17, op := Op.load 60 (Operand.tmp 6), type := 60, pos := "sim.go:159", after := #[], guard := none }) rfl (fun K0 hK0 => ?_) (AllReadyIn.cons (o := { dst := some 21, op := Op.load 60 (Operand.tmp 6), type := 60, pos := "sim.go:159", after := #[], guard := none }) rfl (fun K4 hK4 => ?_) AllReadyIn.nil))
  · go_simp
    refine hK0 _ _ ?_
    clear hK0 K0
    try simp only [Act.put, List.setIfInBounds_toArray, List.set_cons_zero, List.set_cons_succ]
    refine wpAnyIn_take (i := 2) (oi := { dst := some 19, op := Op.indexAddr 60 (Operand.tmp 17) (Operand.tmp 18), type := 0, pos := "sim.go:159", after := #[{ on := 0, ground := Ground.data }, { on := 1, ground := Ground.data }], guard := none }) (v := ?_) rfl rfl (by kernel_rfl) (by kernel_rfl) (by kernel_rfl) (fun _ _ _ h => h) ⟨Or.inl ⟨by rfl, ?_⟩, fun _ => rfl⟩ ?_
    rotate_left
    · intro w'
      go_simp
      try with_reducible rfl
    try simp only [Act.put, List.setIfInBounds_toArray, List.set_cons_zero, List.set_cons_succ]
    refine wpAnyIn_ready (rs := [3, 4]) (by kernel_rfl) (by simp) ?_
    refine (AllReadyIn.cons (o := { dst := some 20, op := Op.load 3 (Operand.tmp 19), type := 3, pos := "sim.go:159", after := #[{ on := 2, ground := Ground.data }], guard := none }) rfl (fun K3 hK3 => ?_) (AllReadyIn.cons (o := { dst := some 21, op := Op.load 60 (Operand.tmp 6), type := 60, pos := "sim.go:159", after := #[], guard := none }) rfl (fun K4 hK4 => ?_) AllReadyIn.nil))
    · go_simp
      refine hK3 _ _ ?_
      clear hK3 K3
      try simp only [Act.put, List.setIfInBounds_toArray, List.set_cons_zero, List.set_cons_succ]
      refine wpAnyIn_take (i := 7) (oi := { dst := some 2, op := Op.assign (Operand.tmp 20), type := 3, pos := "sim.go:159", after := #[{ on := 3, ground := Ground.data }, { on := 0, ground := Ground.phase }, { on := 1, ground := Ground.phase }, { on := 2, ground := Ground.phase }, { on := 3, ground := Ground.phase }, { on := 4, ground := Ground.textOnly Departure.lateStores }, { on := 5, ground := Ground.textOnly Departure.lateStores }, { on := 6, ground := Ground.textOnly Departure.lateStoresUnsure }], guard := none }) (v := ?_) rfl rfl (by kernel_rfl) (by kernel_rfl) (by kernel_rfl) (fun _ _ _ h => h) ⟨Or.inl ⟨by rfl, ?_⟩, fun _ => rfl⟩ ?_
      rotate_left
      · intro w'
        go_simp
        try with_reducible rfl
      try simp only [Act.put, List.setIfInBounds_toArray, List.set_cons_zero, List.set_cons_succ]
      refine wpAnyIn_ready (rs := [4]) (by kernel_rfl) (by simp) ?_
      refine (AllReadyIn.cons (o := { dst := some 21, op := Op.load 60 (Operand.tmp 6), type := 60, pos := "sim.go:159", after := #[], guard := none }) rfl (fun K4 hK4 => ?_) AllReadyIn.nil)
      go_simp
      refine hK4 _ _ ?_
      clear hK4 K4
      try simp only [Act.put, List.setIfInBounds_toArray, List.set_cons_zero, List.set_cons_succ]
      refine wpAnyIn_take (i := 6) (oi := { dst := some 23, op := Op.slice 60 (Operand.tmp 21) none (some (Operand.tmp 22)) none, type := 60, pos := "sim.go:159", after := #[{ on := 4, ground := Ground.data }, { on := 5, ground := Ground.data }], guard := none }) (v := ?_) rfl rfl (by kernel_rfl) (by kernel_rfl) (by kernel_rfl) (fun _ _ _ h => h) ⟨Or.inl ⟨by rfl, ?_⟩, fun _ => rfl⟩ ?_
      rotate_left
      · intro w'
        go_simp
        try with_reducible rfl
      try simp only [Act.put, List.setIfInBounds_toArray, List.set_cons_zero, List.set_cons_succ]
      refine wpAnyIn_ready (rs := [8]) (by kernel_rfl) (by simp) ?_
      refine (AllReadyIn.cons (o := { dst := none, op := Op.store 60 (Operand.tmp 6) (Operand.tmp 23), type := 0, pos := "sim.go:159", after := #[{ on := 6, ground := Ground.data }, { on := 7, ground := Ground.chain }, { on := 0, ground := Ground.phase }, { on := 1, ground := Ground.phase }, { on := 2, ground := Ground.phase }, { on := 3, ground := Ground.phase }, { on := 4, ground := Ground.phase }, { on := 5, ground := Ground.phase }, { on := 6, ground := Ground.phase }, { on := 7, ground := Ground.phase }], guard := none }) rfl (fun K8 hK8 => ?_) AllReadyIn.nil)
      go_simp
      refine hK8 _ _ ?_
      clear hK8 K8
      try simp only [Act.put, List.setIfInBounds_toArray, List.set_cons_zero, List.set_cons_succ]
      refine wpAnyIn_done (by kernel_rfl) ?_ _
      refine NoPanic.normal ?_
      exact h.out
    · go_simp
      refine hK4 _ _ ?_
      clear hK4 K4
      try simp only [Act.put, List.setIfInBounds_toArray, List.set_cons_zero, List.set_cons_succ]
      refine wpAnyIn_take (i := 6) (oi := { dst := some 23, op := Op.slice 60 (Operand.tmp 21) none (some (Operand.tmp 22)) none, type := 60, pos := "sim.go:159", after := #[{ on := 4, ground := Ground.data }, { on := 5, ground := Ground.data }], guard := none }) (v := ?_) rfl rfl (by kernel_rfl) (by kernel_rfl) (by kernel_rfl) (fun _ _ _ h => h) ⟨Or.inl ⟨by rfl, ?_⟩, fun _ => rfl⟩ ?_
      rotate_left
      · intro w'
        go_simp
        try with_reducible rfl
      try simp only [Act.put, List.setIfInBounds_toArray, List.set_cons_zero, List.set_cons_succ]
      refine wpAnyIn_ready (rs := [3]) (by kernel_rfl) (by simp) ?_
      refine (AllReadyIn.cons (o := { dst := some 20, op := Op.load 3 (Operand.tmp 19), type := 3, pos := "sim.go:159", after := #[{ on := 2, ground := Ground.data }], guard := none }) rfl (fun K3 hK3 => ?_) AllReadyIn.nil)
      go_simp
      refine hK3 _ _ ?_
      clear hK3 K3
      try simp only [Act.put, List.setIfInBounds_toArray, List.set_cons_zero, List.set_cons_succ]
      refine wpAnyIn_take (i := 7) (oi := { dst := some 2, op := Op.assign (Operand.tmp 20), type := 3, pos := "sim.go:159", after := #[{ on := 3, ground := Ground.data }, { on := 0, ground := Ground.phase }, { on := 1, ground := Ground.phase }, { on := 2, ground := Ground.phase }, { on := 3, ground := Ground.phase }, { on := 4, ground := Ground.textOnly Departure.lateStores }, { on := 5, ground := Ground.textOnly Departure.lateStores }, { on := 6, ground := Ground.textOnly Departure.lateStoresUnsure }], guard := none }) (v := ?_) rfl rfl (by kernel_rfl) (by kernel_rfl) (by kernel_rfl) (fun _ _ _ h => h) ⟨Or.inl ⟨by rfl, ?_⟩, fun _ => rfl⟩ ?_
      rotate_left
      · intro w'
        go_simp
        try with_reducible rfl
      try simp only [Act.put, List.setIfInBounds_toArray, List.set_cons_zero, List.set_cons_succ]
      refine wpAnyIn_ready (rs := [8]) (by kernel_rfl) (by simp) ?_
      refine (AllReadyIn.cons (o := { dst := none, op := Op.store 60 (Operand.tmp 6) (Operand.tmp 23), type := 0, pos := "sim.go:159", after := #[{ on := 6, ground := Ground.data }, { on := 7, ground := Ground.chain }, { on := 0, ground := Ground.phase }, { on := 1, ground := Ground.phase }, { on := 2, ground := Ground.phase }, { on := 3, ground := Ground.phase }, { on := 4, ground := Ground.phase }, { on := 5, ground := Ground.phase }, { on := 6, ground := Ground.phase }, { on := 7, ground := Ground.phase }], guard := none }) rfl (fun K8 hK8 => ?_) AllReadyIn.nil)
      go_simp
      refine hK8 _ _ ?_
      clear hK8 K8
      try simp only [Act.put, List.setIfInBounds_toArray, List.set_cons_zero, List.set_cons_succ]
      refine wpAnyIn_done (by kernel_rfl) ?_ _
      refine NoPanic.normal ?_
      exact h.out
  · go_simp
    refine hK4 _ _ ?_
    clear hK4 K4
    try simp only [Act.put, List.setIfInBounds_toArray, List.set_cons_zero, List.set_cons_succ]
    refine wpAnyIn_take (i := 6) (oi := { dst := some 23, op := Op.slice 60 (Operand.tmp 21) none (some (Operand.tmp 22)) none, type := 60, pos := "sim.go:159", after := #[{ on := 4, ground := Ground.data }, { on := 5, ground := Ground.data }], guard := none }) (v := ?_) rfl rfl (by kernel_rfl) (by kernel_rfl) (by kernel_rfl) (fun _ _ _ h => h) ⟨Or.inl ⟨by rfl, ?_⟩, fun _ => rfl⟩ ?_
    rotate_left
    · intro w'
      go_simp
      try with_reducible rfl
    try simp only [Act.put, List.setIfInBounds_toArray, List.set_cons_zero, List.set_cons_succ]
    refine wpAnyIn_ready (rs := [0]) (by kernel_rfl) (by simp) ?_
    refine (AllReadyIn.cons (o := { dst := some 17, op := Op.load 60 (Operand.tmp 6), type := 60, pos := "sim.go:159", after := #[], guard := none }) rfl (fun K0 hK0 => ?_) AllReadyIn.nil)
    go_simp
    refine hK0 _ _ ?_
    clear hK0 K0
    try simp only [Act.put, List.setIfInBounds_toArray, List.set_cons_zero, List.set_cons_succ]
    refine wpAnyIn_take (i := 2) (oi := { dst := some 19, op := Op.indexAddr 60 (Operand.tmp 17) (Operand.tmp 18), type := 0, pos := "sim.go:159", after := #[{ on := 0, ground := Ground.data }, { on := 1, ground := Ground.data }], guard := none }) (v := ?_) rfl rfl (by kernel_rfl) (by kernel_rfl) (by kernel_rfl) (fun _ _ _ h => h) ⟨Or.inl ⟨by rfl, ?_⟩, fun _ => rfl⟩ ?_
    rotate_left
    · intro w'
      go_simp
      try with_reducible rfl
    try simp only [Act.put, List.setIfInBounds_toArray, List.set_cons_zero, List.set_cons_succ]
    refine wpAnyIn_ready (rs := [3]) (by kernel_rfl) (by simp) ?_
    refine (AllReadyIn.cons (o := { dst := some 20, op := Op.load 3 (Operand.tmp 19), type := 3, pos := "sim.go:159", after := #[{ on := 2, ground := Ground.data }], guard := none }) rfl (fun K3 hK3 => ?_) AllReadyIn.nil)
    go_simp
    refine hK3 _ _ ?_
    clear hK3 K3
    try simp only [Act.put, List.setIfInBounds_toArray, List.set_cons_zero, List.set_cons_succ]
    refine wpAnyIn_take (i := 7) (oi := { dst := some 2, op := Op.assign (Operand.tmp 20), type := 3, pos := "sim.go:159", after := #[{ on := 3, ground := Ground.data }, { on := 0, ground := Ground.phase }, { on := 1, ground := Ground.phase }, { on := 2, ground := Ground.phase }, { on := 3, ground := Ground.phase }, { on := 4, ground := Ground.textOnly Departure.lateStores }, { on := 5, ground := Ground.textOnly Departure.lateStores }, { on := 6, ground := Ground.textOnly Departure.lateStoresUnsure }], guard := none }) (v := ?_) rfl rfl (by kernel_rfl) (by kernel_rfl) (by kernel_rfl) (fun _ _ _ h => h) ⟨Or.inl ⟨by rfl, ?_⟩, fun _ => rfl⟩ ?_
    rotate_left
    · intro w'
      go_simp
      try with_reducible rfl
    try simp only [Act.put, List.setIfInBounds_toArray, List.set_cons_zero, List.set_cons_succ]
    refine wpAnyIn_ready (rs := [8]) (by kernel_rfl) (by simp) ?_
    refine (AllReadyIn.cons (o := { dst := none, op := Op.store 60 (Operand.tmp 6) (Operand.tmp 23), type := 0, pos := "sim.go:159", after := #[{ on := 6, ground := Ground.data }, { on := 7, ground := Ground.chain }, { on := 0, ground := Ground.phase }, { on := 1, ground := Ground.phase }, { on := 2, ground := Ground.phase }, { on := 3, ground := Ground.phase }, { on := 4, ground := Ground.phase }, { on := 5, ground := Ground.phase }, { on := 6, ground := Ground.phase }, { on := 7, ground := Ground.phase }], guard := none }) rfl (fun K8 hK8 => ?_) AllReadyIn.nil)
    go_simp
    refine hK8 _ _ ?_
    clear hK8 K8
    try simp only [Act.put, List.setIfInBounds_toArray, List.set_cons_zero, List.set_cons_succ]
    refine wpAnyIn_done (by kernel_rfl) ?_ _
    refine NoPanic.normal ?_
    exact h.out
end Go.Proofs.YthgdfgkjaepchaaDoor
namespace Go.Proofs.YthgdfgkjaepchaaDoor
open Go.RowKit Go.Shelf
set_option linter.unusedVariables false
set_option linter.unusedSimpArgs false
attribute [local go_sem] Oper.semAt_some

def ints (q : List Nat) : List Int := q.map (fun k : Nat => (k : Int))
theorem ints_app (p q : List Nat) : ints (p ++ q) = ints p ++ ints q := by simp [ints]
theorem ints_len (q : List Nat) : (ints q).length = q.length := by simp [ints]
theorem addW_same {W : List Nat} (h : OkW W) {z : Nat} (hi : inW W z = true) : addW W z = W := by
  have hl := inW_lt h hi
  have hb : (W.getD (z / 64) 0 ||| 2 ^ (z % 64)) = W.getD (z / 64) 0 := by
    apply Nat.eq_of_testBit_eq
    intro j
    rw [Nat.testBit_or, Nat.testBit_two_pow]
    by_cases e : z % 64 = j
    · subst e
      have : (W.getD (z / 64) 0).testBit (z % 64) = true := hi
      rw [this]; simp
    · simp [e]
  unfold addW
  rw [hb]
  have hk : z / 64 < W.length := by rw [h.len]; omega
  apply List.ext_getElem?
  intro k
  rw [List.getElem?_set]
  by_cases e : z / 64 = k
  · subst e
    rw [if_pos rfl, if_pos hk, List.getD_eq_getElem?_getD, List.getElem?_eq_getElem hk]
    rfl
  · rw [if_neg e]
/-- Between two rounds of stand. -/
structure LI (w0 : World) (g g6 : Nat) (t : TypeId) (pre : Array Value) (L : List Ins) (W0 : List Nat) (num : Nat) (ds : List Nat) (m : Nat) (w : World) : Prop where
  ex : ∃ W q, SI w0 g g6 t pre (fun _ => True) W (ints q) w ∧ SdI L W0 W q num ∧ msr W q = m
  nd : ds.Nodup
  mks : ∀ D ∈ ds, w0.heap.size ≤ D ∧ w.heap[D]? = some (.deferred (some []))
theorem mk_ne {w : World} {D k : Nat} {cs : Array Value} {t : TypeId} (h : w.heap[D]? = some (.deferred (some []))) (h2 : w.heap[k]? = some (.cells cs t (0, 0))) : D ≠ k := fun e => by
  rw [e, h2] at h
  cases h
set_option maxHeartbeats 8000000 in
set_option maxRecDepth 100000 in
theorem stand_in (n : Nat) (h3 : 3 ≤ n) (ad : Option Addr) (c : Nat) (L : List Ins) (num g : Nat) (pre : Array Value) (t : TypeId) (W0 : List Nat) (w : World) (hL : HsI w (fun k => k < w.heap.size ∧ k ≠ g) ad L) (hG : GoL L) (hlen : L.length ≤ 2048) (hn : num < L.length) (hW : OkW W0) (hc : Clsd L (snW W0)) (hg : w.heap[g]? = some (.cells (pA pre W0) t (0, 0))) :
    CallsIn Fence.wide n Tryd.prog 51 #[.slice ad L.length c, .pointer (some ⟨g, pre.size, none⟩), .int .i64 (num : Int)] w fun e w' => (∃ v, e = .returned v) ∧ But (fun k => k = g) w w' ∧ ∃ W, OkW W ∧ (∀ m, inW W m = true ↔ inW W0 m = true ∨ Eps L num m) ∧ w'.heap[g]? = some (.cells (pA pre W) t (0, 0)) := by
  have hgl := (Array.getElem?_eq_some_iff.1 hg).1
  replace hL := hide hL
  replace hG := hide hG
  replace hW := hide hW
  replace hc := hide hc
  replace hg := hide hg
  replace hn := hide hn
  refine callsIn_of_wp_marks Tryd.func51 rfl trivial ?_ rfl
  simp only [Tryd.ntmps51, List.size_toArray, List.length_cons, List.length_nil, Nat.reduceAdd, Nat.reduceSub, Array.replicate_succ, Array.replicate_zero, List.push_toArray, List.append_toArray, List.nil_append, List.cons_append]
  gi_wp2_with (first | ((with_reducible refine atI_begin ?_); refine wlI_begin wide_fn rfl (fun _ _ => rfl) (fun _ _ => rfl) ?_; intro gr g6 w1 q6 qr B1 n1 n2 n3; replace q6 := hide q6; replace qr := hide qr; replace B1 := hide B1))
  have S1 : SI w g g6 t pre (fun _ => True) W0 (ints [num]) w1 := ⟨⟨B1.out.os, B1.out.tape, B1.out.output, B1.out.size, fun k hk _ => B1.out.block k hk⟩, (B1.out.block g hgl).trans hg.out, hgl, n2, gr, _, _, q6.out, qr.out, ⟨0, 1, rfl, by simp, by simp [ints], fun i z hi => by
    match i with
    | 0 => simp [ints] at hi; subst hi; rfl
    | i + 1 => simp [ints] at hi⟩, n1, n3, trivial⟩
  have LI1 : LI w g g6 t pre L W0 num [] (msr W0 [num]) w1 := ⟨⟨W0, [num], S1, SdI.start hW.out hn.out, rfl⟩, List.nodup_nil, fun D hD => by cases hD⟩
  clear S1 q6 qr B1 n1 n3
  refine wpIn_loopM (fun m a w' => ∃ (ds : List Nat) (u2 u7 u8 u9 u10 u11 u12 u13 u14 u15 u16 u17 u18 u19 u20 u21 u22 u23 u24 u25 u26 u27 u28 u29 u30 u31 u32 u33 u34 u35 u36 : Value), a = { tmps := #[.slice ad L.length c, .pointer (some ⟨g, pre.size, none⟩), u2, undef, undef, undef, .pointer (some ⟨g6, 0, none⟩), u7, u8, u9, u10, u11, u12, u13, u14, u15, u16, u17, u18, u19, u20, u21, u22, u23, u24, u25, u26, u27, u28, u29, u30, u31, u32, u33, u34, u35, u36], defers := marks ds } ∧ LI w g g6 t pre L W0 num ds m w') (m0 := msr W0 [num]) ⟨[], _, _, _, _, _, _, _, _, _, _, _, _, _, _, _, _, _, _, _, _, _, _, _, _, _, _, _, _, _, _, _, rfl, LI1⟩ ?_
  clear LI1
  rintro m a wr ⟨ds, u2, u7, u8, u9, u10, u11, u12, u13, u14, u15, u16, u17, u18, u19, u20, u21, u22, u23, u24, u25, u26, u27, u28, u29, u30, u31, u32, u33, u34, u35, u36, rfl, ⟨W, q, hS, hD, rfl⟩, hnd, hmk⟩
  rcases List.eq_nil_or_concat q with rfl | ⟨q', z, rfl⟩
  · obtain ⟨gr, cur, v, e1, e2, e3, e4, e5, e6⟩ := hS.row
    obtain ⟨o, cc, rfl⟩ := QuP.empty e3
    have c6 := cell_row e1 0 (v := .slice (some ⟨gr, o, none⟩) 0 cc) rfl
    replace e1 := hide e1
    replace e2 := hide e2
    replace e3 := hide e3
    replace hS := hide hS
    replace hD := hide hD
    replace hmk := hide hmk
    replace hnd := hide hnd
    gi_wp2_with (first | ((with_reducible refine atI_load 60 ?_); refine wlI_load 60 wide_fn rfl (ld60 c6) ?_))
    refine leaves_marks ds wr hnd.out (fun D hD => (hmk.out D hD).2) (fun w' s1 s2 s3 s4 s5 => ?_)
    refine ⟨_, results_none rfl _ _ _, ⟨_, rfl⟩, ?_, W, hD.out.ok, hD.out.fin hc.out, ?_⟩
    · have hb := hS.out.but
      exact ⟨s2.trans hb.os, s3.trans hb.tape, s4.trans hb.output, Nat.le_trans hb.size s1, fun k hk hkg => (s5 k (fun hkd => by have := (hmk.out k hkd).1; omega)).trans (hb.block k hk hkg)⟩
    · exact (s5 g (fun hkd => by have := (hmk.out g hkd).1; omega)).trans hS.out.set
  · rw [List.concat_eq_append] at hS hD ⊢
    have hzl := hD.qlt z (by simp)
    have hz2 : z < 2048 := by omega
    have hql := hD.room
    simp only [List.length_append, List.length_cons, List.length_nil] at hql
    obtain ⟨gr, cur, v, e1, e2, e3, e4, e5, e6⟩ := hS.row
    rw [ints_app] at e3
    obtain ⟨o, cc, rfl, f1, f2, f3⟩ := QuP.last e3
    have hil := ints_len q'
    obtain ⟨mm, hmm⟩ : ∃ mm, mm = q'.length := ⟨_, rfl⟩
    obtain ⟨ln, hln⟩ : ∃ ln, ln = mm + 1 := ⟨_, rfl⟩
    rw [hil, ← hmm] at f1 f2 f3
    rw [hil, ← hmm, ← hln] at e1
    have cz : wr.cell? ⟨gr, o + mm, none⟩ = some (.int .i64 (z : Int)) := by rw [cell_of_row wr gr _ _ 3 (0, 0) e2]; exact f1
    have c6 := cell_row e1 0 (v := .slice (some ⟨gr, o, none⟩) ln cc) rfl
    have i0 : (0 : Int) < (ln : Int) := by omega
    have i1 : (ln : Int) - 1 = (mm : Int) := by omega
    have hS3 : SI w g g6 t pre (fun _ => True) W (ints q') (wr.drew.setCell ⟨g6, 0, none⟩ (.slice (some ⟨gr, o, none⟩) mm cc)) := hS.drew.box (fun gr2 cur2 v2 x1 x2 x3 => by
      have y1 : wr.heap[g6]? = some (.cells #[v2] 60 (0, 0)) := x1
      rw [e1] at y1
      obtain ⟨o2, c2, e, _⟩ := x3.ex
      cases y1
      cases e
      have y2 : wr.heap[gr]? = some (.cells cur2 3 (0, 0)) := x2
      rw [e2] at y2
      cases y2
      exact f3)
    have hmk3 : ∀ D ∈ ds, w.heap.size ≤ D ∧ (wr.drew.setCell ⟨g6, 0, none⟩ (.slice (some ⟨gr, o, none⟩) mm cc)).heap[D]? = some (.deferred (some [])) := fun D hD => ⟨(hmk D hD).1, (Below.heap_setCell wr.drew ⟨g6, 0, none⟩ _ D (mk_ne (hmk D hD).2 e1)).trans (hmk D hD).2⟩
    have hcz := cz
    replace hD := hide hD
    replace e1 := hide e1
    replace e2 := hide e2
    replace e3 := hide e3
    replace f1 := hide f1
    replace f3 := hide f3
    replace hS := hide hS
    replace hmk := hide hmk
    replace hnd := hide hnd
    replace hS3 := hide hS3
    replace hmk3 := hide hmk3
    replace hmm := hide hmm
    replace hln := hide hln
    replace hil := hide hil
    have hmb : mm ≤ 5000 := by rw [hmm.out]; omega
    gi_wp2_with (first | ((with_reducible refine atI_load 60 ?_); refine wlI_load 60 wide_fn rfl (ld60 c6) ?_))
    refine reg51_3 _ (marks ds) wr gr g6 o mm cc (z : Int) (by omega) ln hln.out f2 e1.out cz _ _ _ _ _ _ _ _ _ _ _ _ _ _ _ _ _ _ _ _ _ _ _ _ _ _ _ _ _ _ _ _ _ _ _ _ ?_
    clear c6 cz hcz hS hmk e1 e2
    generalize wr.drew.setCell ⟨g6, 0, none⟩ (.slice (some ⟨gr, o, none⟩) mm cc) = w3 at hS3 hmk3 ⊢
    gi_wp2
    refine ⟨trivial, fun h => (by cases h), (callsIn_wide.2 (add_any g pre t W z hD.out.ok hz2 w3 hS3.out.set)).mono ?_⟩
    rintro e w4 ⟨rfl, hset4, hb4⟩
    have hS4 : Hid (SI w g g6 t pre (fun _ => True) (addW W z) (ints q') w4) := hS3.out.turn hb4 hset4
    have hmk4 : Hid (∀ D ∈ ds, w.heap.size ≤ D ∧ w4.heap[D]? = some (.deferred (some []))) := fun D hD => ⟨(hmk3.out D hD).1, (hb4.block D (Array.getElem?_eq_some_iff.1 (hmk3.out D hD).2).1 (by have := (hmk3.out D hD).1; omega)).trans (hmk3.out D hD).2⟩
    clear hset4 hb4
    cases hin : inW W z with
    | true =>
      have hsame := addW_same hD.out.ok hin
      have hD5 := hide (hD.out.old hin)
      have hM5 := hide (msr_old W q' z)
      replace hin := hide hin
      gi_wp2
      refine ⟨_, hM5.out, ds, _, _, _, _, _, _, _, _, _, _, _, _, _, _, _, _, _, _, _, _, _, _, _, _, _, _, _, _, _, _, _, rfl, ⟨W, q', by rw [← hsame]; exact hS4.out, hD5.out, rfl⟩, hnd.out, hmk4.out⟩
    | false =>
      obtain ⟨xi, hxi⟩ : ∃ xi, L[z]? = some xi := ⟨_, List.getElem?_eq_getElem hzl.1⟩
      have hD5 := hide (hD.out.new hin hlen hG.out hxi)
      have hM5 := hide (msr_new hD.out.ok hz2 hin q' xi)
      have hxy := hG.out xi (List.mem_of_getElem? hxi)
      obtain ⟨b, off, cur0, t0, fr0, hadr, ⟨hbl, hbg⟩, hbb, hcells⟩ : ∃ b off cur t fr, ad = some ⟨b, off, none⟩ ∧ (b < w.heap.size ∧ b ≠ g) ∧ w.heap[b]? = some (.cells cur t fr) ∧ ∀ k i, L[k]? = some i → ∀ j u, (insA i)[j]? = some u → cur[off + k * 7 + j]? = some u := by
        rcases hL.out with h | h
        · rw [h] at hxi; simp at hxi
        · exact h
      subst hadr
      have i4 : (z : Int) < (L.length : Int) := by omega
      obtain ⟨gr5, hS5, k1, k2, k3, k4⟩ := hS4.out.at
      have hs4 := hS4.out.but.size
      have hb4 := (hS4.out.but.block b hbl hbg).trans hbb
      have hI4 : ∀ j u, (insA xi)[j]? = some u → w4.cell? ⟨b, off + z * 7 + j, none⟩ = some u := fun j u hj => by
        rw [cell_of_row w4 b _ _ t0 fr0 hb4]; exact hcells z xi hxi j u hj
      have h64 : g6 < w4.heap.size := by obtain ⟨_, _, _, y, _⟩ := hS4.out.row; exact (Array.getElem?_eq_some_iff.1 y).1
      have hmlt : Hid (∀ D ∈ ds, D < w4.heap.size) := fun D hD => (Array.getElem?_eq_some_iff.1 (hmk4.out D hD).2).1
      replace hin := hide hin
      replace hxi := hide hxi
      replace hxy := hide hxy
      replace hbb := hide hbb
      replace hcells := hide hcells
      replace hI4 := hide hI4
      replace hS5 := hide hS5
      replace k4 := hide k4
      replace hb4 := hide hb4
      gi_wp2
      refine ⟨trivial, fun h => (by cases h), (onward_in _ _ _).mono ?_⟩
      rintro e w5 ⟨gB, rfl, hbB, B5, hgB⟩
      have hs5 := B5.size
      have hlB := (Array.getElem?_eq_some_iff.1 hbB).1
      have hst := onward_stops w5.heap.size (fun k => k = g6 ∨ k = gr5 ∨ w5.heap.size ≤ k) (n - 1) gB b (off + z * 7) xi w5 hbB (fun j u hj => by
        have := hI4.out j u hj
        exact (World.cell?_of_block (B5.block b (by omega))).trans this) ⟨by omega, by omega⟩ ⟨by omega, by omega⟩ (fun h => (hxy.out.1 (by omega)).1) (fun h => (hxy.out.2 h).1)
      have I0 : SI w g g6 t pre (fun k => k = gr5 ∨ w5.heap.size ≤ k) (addW W z) (ints (q' ++ [])) w5 ∧ ∀ D ∈ ds, w5.heap[D]? = some (.deferred (some [])) := ⟨by rw [List.append_nil]; exact (hS5.out.mono (fun k _ h => .inl h)).below B5, fun D hD => (B5.block D (hmlt.out D hD)).trans (hmk4.out D hD).2⟩
      replace B5 := hide B5
      replace hbB := hide hbB
      gi_wp2
      refine wpIn_rangeFunc_ownH rfl (by omega) (gf := 108) (lb := #[.pointer (some ⟨gB, 0, none⟩)]) rfl (wide_fn 108) (enters_of Tryd.func108 (by kernel_rfl) rfl)
        hst (fun h k => h.trans k) (fun W l o o' hl ho hc _ => ⟨by simp [World.putObj], fun k hk hlt hX => (grownBy_putObj' W l o').block k hlt (fun h => by cases h; omega)⟩) (Below.refl _ w5) (fun _ => rfl)
        (fun pr Wd => SI w g g6 t pre (fun k => k = gr5 ∨ w5.heap.size ≤ k) (addW W z) (ints (q' ++ pr)) Wd ∧ ∀ D ∈ ds, Wd.heap[D]? = some (.deferred (some [])))
        (fun _ _ _ => False)
        (fun pr Wd Wd' row hs hg' hr => ⟨hs.1.own (by omega) hg' hr, fun D hD => (hg'.block D (Array.getElem?_eq_some_iff.1 (hs.2 D hD)).1 (fun e => by have := (hr D e.symm).1; have := hmlt.out D hD; omega)).trans (hs.2 D hD)⟩)
        (fun _ _ _ _ _ hs _ _ => hs) I0
        (fun x a' Wd => ∃ (u0 u1 u2 u3 u4 u5 u7 u9 u10 u11 u12 u13 u14 u15 u16 u17 u18 u19 u20 u21 u22 u23 u24 u25 u26 u27 u28 u29 u30 u31 u32 u33 u34 u35 u36 : Value), a' = { tmps := #[u0, u1, u2, u3, u4, u5, .pointer (some ⟨g6, 0, none⟩), u7, .int .i64 (x : Int), u9, u10, u11, u12, u13, u14, u15, u16, u17, u18, u19, u20, u21, u22, u23, u24, u25, u26, u27, u28, u29, u30, u31, u32, u33, u34, u35, u36], defers := [] })
        (fun x a' _ Wd Wd' row hs hg' hr => hs) ?assign ?body ?done ?stop
      case assign =>
        intro l pr x Wd K hi hK
        simp only [encO, List.zip_toArray, List.zip_cons_cons, List.zip_nil_left, List.zip_nil_right, List.foldl_toArray, List.foldl_cons, List.foldl_nil, List.setIfInBounds_toArray, List.set_cons_zero, List.set_cons_succ]
        replace hK := hide hK
        replace hi := hide hi
        gi_wp2
        exact hK.out _ Wd ⟨Nat.le_refl _, fun _ _ _ h _ => h⟩ (KO.refl _ _ _) hi.out ⟨_, _, _, _, _, _, _, _, _, _, _, _, _, _, _, _, _, _, _, _, _, _, _, _, _, _, _, _, _, _, _, _, _, _, _, rfl⟩
      case body =>
        rintro l pr x a' Wd hl ⟨r, hr⟩ ⟨hs, hm⟩ ⟨u0, u1, u2, u3, u4, u5, u7, u9, u10, u11, u12, u13, u14, u15, u16, u17, u18, u19, u20, u21, u22, u23, u24, u25, u26, u27, u28, u29, u30, u31, u32, u33, u34, u35, u36, rfl⟩ hlt
        obtain ⟨v, v', wx, e6, hrun, e6', hone, hs', hb'⟩ := hs.push (fun k hk => .inr (by have := (Array.getElem?_eq_some_iff.1 hr).1; omega)) (by rw [ints_len]; simp; omega) (x : Int) 60
        have c6 := cell_row e6 0 (v := v) rfl
        have hmx : ∀ D ∈ ds, (wx.setCell ⟨g6, 0, none⟩ v').heap[D]? = some (.deferred (some [])) := fun D hD => (hb'.block D (Array.getElem?_eq_some_iff.1 (hm D hD)).1 (fun h => by
          rcases h with h | ⟨_, cur, h⟩
          · exact mk_ne (hm D hD) e6 h
          · rw [hm D hD] at h; cases h)).trans (hm D hD)
        have hKF : KeepsFrom w5.heap.size Wd (wx.setCell ⟨g6, 0, none⟩ v') := ⟨hb'.size, fun k o hk ho hcs => (hb'.block k (Array.getElem?_eq_some_iff.1 ho).1 (fun h => by
          rcases h with h | ⟨_, cur, h⟩
          · rw [h, e6] at ho; cases ho; cases hcs
          · rw [ho] at h; cases h; cases hcs)).trans ho⟩
        have hKO : KO w5.heap.size (fun k => k = g6 ∨ k = gr5 ∨ w5.heap.size ≤ k) Wd (wx.setCell ⟨g6, 0, none⟩ v') := ⟨hb'.size, fun k hk hl hX => hb'.block k hl (fun h => hX (by
          rcases h with h | ⟨h, _⟩
          · exact .inl h
          · exact .inr h))⟩
        have hs2 : SI w g g6 t pre (fun k => k = gr5 ∨ w5.heap.size ≤ k) (addW W z) (ints (q' ++ (pr ++ [x]))) (wx.setCell ⟨g6, 0, none⟩ v') := by
          have := hs'
          rw [show ints (q' ++ pr) ++ [(x : Int)] = ints (q' ++ (pr ++ [x])) by simp [ints]] at this
          exact this
        replace hs := hide hs
        replace hs' := hide hs'
        replace hb' := hide hb'
        replace hr := hide hr
        replace hm := hide hm
        replace e6 := hide e6
        gi_wp2_with (first | ((with_reducible refine atI_load 60 ?_); refine wlI_load 60 (round_fn l) rfl (ld60 c6) ?_) | ((with_reducible refine atI_push ?_); refine wlI_push (round_fn l) hrun e6' hone rfl (fun _ => rfl) (fun _ => rfl) (fun _ _ => rfl) (fun _ _ => rfl) ?_; intro u0))
        exact ⟨hKF, hKO, hs2, hmx⟩
      case done =>
        rintro D xs Wd hD hSx ⟨hs, hm⟩ hK
        subst hSx
        replace hs := hide hs
        replace hm := hide hm
        replace hK := hide hK
        gi_wp2
        refine ⟨_, hM5.out, D :: ds, _, _, _, _, _, _, _, _, _, _, _, _, _, _, _, _, _, _, _, _, _, _, _, _, _, _, _, _, _, _, _, rfl, ⟨addW W z, q' ++ onw xi, hs.out.mono (fun _ _ _ => trivial), hD5.out, rfl⟩, List.nodup_cons.2 ⟨fun h => by have := hmlt.out D h; omega, hnd.out⟩, fun E hE => ?_⟩
        rcases List.mem_cons.1 hE with rfl | hE
        · exact ⟨by omega, hK.out⟩
        · exact ⟨(hmk4.out E hE).1, hm.out E hE⟩
      case stop => rintro D cc2 pr Wd hD hSx h; exact h.elim
end Go.Proofs.YthgdfgkjaepchaaDoor
namespace Go.Proofs.YthgdfgkjaepchaaDoor
open Go.RowKit Go.Shelf
set_option linter.unusedVariables false
set_option linter.unusedSimpArgs false

set_option maxHeartbeats 2000000 in
set_option maxRecDepth 100000 in
theorem has86 (s : S4) (hs : OkS s) (b : Nat) (hb : b < 256) (w : World) : Calls Tryd.prog 86 #[setV s, .int .u8 (b : Int)] w fun e w' => e = .returned (.bool (inS s b)) ∧ Below w.heap.size w w' := by
  have H := St.start Nope w
  obtain ⟨q, hq⟩ : ∃ q, q = b / 64 := ⟨_, rfl⟩
  obtain ⟨r, hr⟩ : ∃ r, r = b % 64 := ⟨_, rfl⟩
  have hq4 : q < 4 := by omega
  have hr64 : r < 64 := by omega
  have e1 : (b : Int) / 64 = (q : Int) := by omega
  have e2 : (b : Int) % 64 = (r : Int) := by omega
  have e3 : (b : Int).tdiv 64 = (q : Int) := by rw [Int.tdiv_eq_ediv_of_nonneg (by omega)]; omega
  have e4 : (b : Int).tmod 64 = (r : Int) := by rw [Int.tmod_eq_emod_of_nonneg (by omega)]; omega
  have u1 : IntKind.u8.wrap (q : Int) = (q : Int) := by simp [IntKind.wrap, IntKind.signed, IntKind.bits]; omega
  have u2 : IntKind.u8.wrap (r : Int) = (r : Int) := by simp [IntKind.wrap, IntKind.signed, IntKind.bits]; omega
  have i1 : (q : Int) < 4 := by omega
  obtain ⟨p1, p2⟩ := hs q hq4
  obtain ⟨z, hz⟩ : ∃ z : Nat, s.get q = (z : Int) := ⟨(s.get q).toNat, by omega⟩
  have e6 : ((z : Int) / 2 ^ r) = ((z / 2 ^ r : Nat) : Int) := by push_cast; rfl
  have hy : z / 2 ^ r < 18446744073709551616 := Nat.lt_of_le_of_lt (Nat.div_le_self _ _) (by omega)
  have hand := and_nat (z / 2 ^ r) 1 hy (by decide)
  generalize z / 2 ^ r = y at e6 hy hand
  have hres : Hid ((inS s b) = ((y % 2 : Nat) == 1)) := by
    show _ = _
    unfold inS
    rw [← hq, ← hr, hz, e6, Int.tmod_eq_emod_of_nonneg (by omega), Bool.eq_iff_iff, beq_iff_eq, beq_iff_eq]
    omega
  generalize hin : inS s b = res at hres
  replace hin := hide hin
  replace hq := hide hq
  replace hr := hide hr
  replace e6 := hide e6
  replace hz := hide hz
  replace hs := hide hs
  replace hand := hide hand
  clear p1 p2
  go_enter Tryd.func86, Tryd.ntmps86
  go_wp2_with (first | ((with_reducible refine at_box 24 ?_); refine wl_box25 H rfl ?_; clear H; intro g w1 H p1 p2; have c0 := H.cell 0 q rfl (v := .int .u64 (s.get q)) (by rcases (show q = 0 ∨ q = 1 ∨ q = 2 ∨ q = 3 by omega) with rfl | rfl | rfl | rfl <;> rfl)))
  go_ret
  refine ⟨?_, H.below⟩
  rw [hres.out]
  refine congrArg Ending.returned ?_
  try rw [hz.out]
  try rw [e6.out]
  have h2 : bits BinOp.and IntKind.u64 (y : Int) 1 = ((y % 2 : Nat) : Int) := by have := hand.out; rwa [Nat.and_one_is_mod] at this
  refine congrArg Value.bool ?_
  rw [h2, Bool.eq_iff_iff, beq_iff_eq, beq_iff_eq]
  omega
set_option maxHeartbeats 2000000 in
set_option maxRecDepth 100000 in
theorem has56 (s : S4) (hs : OkS s) (b : Nat) (hb : b < 256) (w : World) : Calls Tryd.prog 56 #[setV s, .int .u8 (b : Int)] w fun e w' => e = .returned (.bool (inS s b)) ∧ Below w.heap.size w w' := by
  have H := St.start Nope w
  obtain ⟨q, hq⟩ : ∃ q, q = b / 64 := ⟨_, rfl⟩
  obtain ⟨r, hr⟩ : ∃ r, r = b % 64 := ⟨_, rfl⟩
  have hq4 : q < 4 := by omega
  have hr64 : r < 64 := by omega
  have e1 : (b : Int) / 64 = (q : Int) := by omega
  have e2 : (b : Int) % 64 = (r : Int) := by omega
  have e3 : (b : Int).tdiv 64 = (q : Int) := by rw [Int.tdiv_eq_ediv_of_nonneg (by omega)]; omega
  have e4 : (b : Int).tmod 64 = (r : Int) := by rw [Int.tmod_eq_emod_of_nonneg (by omega)]; omega
  have u1 : IntKind.u8.wrap (q : Int) = (q : Int) := by simp [IntKind.wrap, IntKind.signed, IntKind.bits]; omega
  have u2 : IntKind.u8.wrap (r : Int) = (r : Int) := by simp [IntKind.wrap, IntKind.signed, IntKind.bits]; omega
  have i1 : (q : Int) < 4 := by omega
  obtain ⟨p1, p2⟩ := hs q hq4
  obtain ⟨z, hz⟩ : ∃ z : Nat, s.get q = (z : Int) := ⟨(s.get q).toNat, by omega⟩
  have e6 : ((z : Int) / 2 ^ r) = ((z / 2 ^ r : Nat) : Int) := by push_cast; rfl
  have hy : z / 2 ^ r < 18446744073709551616 := Nat.lt_of_le_of_lt (Nat.div_le_self _ _) (by omega)
  have hand := and_nat (z / 2 ^ r) 1 hy (by decide)
  generalize z / 2 ^ r = y at e6 hy hand
  have hres : Hid ((inS s b) = ((y % 2 : Nat) == 1)) := by
    show _ = _
    unfold inS
    rw [← hq, ← hr, hz, e6, Int.tmod_eq_emod_of_nonneg (by omega), Bool.eq_iff_iff, beq_iff_eq, beq_iff_eq]
    omega
  generalize hin : inS s b = res at hres
  replace hin := hide hin
  replace hq := hide hq
  replace hr := hide hr
  replace e6 := hide e6
  replace hz := hide hz
  replace hs := hide hs
  replace hand := hide hand
  clear p1 p2
  go_enter Tryd.func56, Tryd.ntmps56
  go_wp2_with (first | ((with_reducible refine at_box 24 ?_); refine wl_box25 H rfl ?_; clear H; intro g w1 H p1 p2; have c0 := H.cell 0 q rfl (v := .int .u64 (s.get q)) (by rcases (show q = 0 ∨ q = 1 ∨ q = 2 ∨ q = 3 by omega) with rfl | rfl | rfl | rfl <;> rfl)))
  go_ret
  refine ⟨?_, H.below⟩
  rw [hres.out]
  refine congrArg Ending.returned ?_
  try rw [hz.out]
  try rw [e6.out]
  refine congrArg Value.bool ?_
  rw [Bool.eq_iff_iff, beq_iff_eq, beq_iff_eq]
  first
  | omega
  | (rw [Int.tmod_eq_emod_of_nonneg (by omega)]; omega)
/-- A runner at g, of the program l, standing at W. -/
def Rn (w : World) (g : Nat) (ad : Option Addr) (n c : Nat) (W : List Nat) : Prop := w.heap[g]? = some (.cells (pA #[.slice ad n c] W) 103 (0, 0))
theorem Rn.l {w : World} {g : Nat} {ad : Option Addr} {n c : Nat} {W : List Nat} (h : Rn w g ad n c W) : w.cell? ⟨g, 0, none⟩ = some (.slice ad n c) := by
  rw [cell_of_row w g _ _ 103 (0, 0) h]
  unfold pA
  rw [Array.getElem?_append_left (by simp)]
  rfl
theorem Rn.kept {w w' : World} {g : Nat} {ad : Option Addr} {n c : Nat} {W : List Nat} (h : Rn w g ad n c W) (e : w'.heap[g]? = w.heap[g]?) : Rn w' g ad n c W := e.trans h
theorem Rn.lt {w : World} {g : Nat} {ad : Option Addr} {n c : Nat} {W : List Nat} (h : Rn w g ad n c W) : g < w.heap.size := (Array.getElem?_eq_some_iff.1 h).1
set_option maxHeartbeats 400000 in
theorem isMade_any (g : Nat) (ad : Option Addr) (n c : Nat) (hn : 0 < n) (w : World) (hl : w.cell? ⟨g, 0, none⟩ = some (.slice ad n c)) : Calls Tryd.prog 52 #[.pointer (some ⟨g, 0, none⟩)] w fun e w' => e = .returned (.bool true) ∧ w' = w := by
  have i1 : (0 : Int) < (n : Int) := by omega
  go_enter Tryd.func52, Tryd.ntmps52
  go_wp2_with fail
  go_ret
  exact ⟨rfl, rfl⟩
set_option maxHeartbeats 400000 in
theorem dead_any (g : Nat) (ad : Option Addr) (n c : Nat) (hn : 0 < n) (W : List Nat) (hW : OkW W) (w : World) (h : Rn w g ad n c W) : Calls Tryd.prog 54 #[.pointer (some ⟨g, 0, none⟩)] w fun e w' => e = .returned (.bool (decide (W = noW))) ∧ w' = w := by
  have H1 := hide (isMade_any g ad n c hn w h.l)
  have H2 : Hid (Calls Tryd.prog 87 #[.pointer (some ⟨g, 1, none⟩)] w fun e w' => e = .returned (.bool (decide (W = noW))) ∧ w' = w) := isEmpty_any g #[.slice ad n c] 103 W hW w h
  generalize decide (W = noW) = b at *
  go_enter Tryd.func54, Tryd.ntmps54
  go_wp2_with fail
  refine H1.out.mono ?_
  rintro e w1 ⟨rfl, rfl⟩
  go_wp2_with fail
  refine H2.out.mono ?_
  rintro e w1 ⟨rfl, rfl⟩
  go_wp2_with fail
  go_ret
  exact ⟨rfl, rfl⟩
theorem size103 : (Tryd.prog.info? 103).map (·.size) = some 33 := by kernel_rfl
theorem run_build103 (w : World) (ev : Operand → Value) (x : Operand) (dst : Option Nat) (ty : TypeId) (pos : String) (after : Array Edge) {ad : Option Addr} {n c : Nat} (hx : ev x = .slice ad n c) : (execOp ev ⟨dst, .build 103 #[(0, x)], ty, pos, after, none⟩).run Tryd.prog w = .ok (.value (.agg (pA #[.slice ad n c] noW))) w := by
  unfold execOp
  simp only [List.map_toArray, List.map_cons, List.map_nil, hx]
  kernel_rfl
theorem run_box103 (w : World) (ev : Operand → Value) (x : Operand) (dst : Option Nat) (ty : TypeId) (pos : String) (after : Array Edge) {ad : Option Addr} {n c : Nat} (hx : ev x = .agg (pA #[.slice ad n c] noW)) : (execOp ev ⟨dst, .box 103 x, ty, pos, after, none⟩).run Tryd.prog w = .ok (.value (.pointer (some ⟨w.heap.size, 0, none⟩))) (w.alloc (.cells (pA #[.slice ad n c] noW) 103)) := by
  unfold execOp
  simp only [hx]
  kernel_rfl
set_option maxHeartbeats 1000000 in
theorem begin_any (ad : Option Addr) (c : Nat) (L : List Ins) (w : World) (hL : HsI w (fun k => k < w.heap.size) ad L) (hG : GoL L) (hlen : L.length ≤ 2048) (h0 : 0 < L.length) :
    Calls Tryd.prog 31 #[.slice ad L.length c] w fun e w' => ∃ g W, e = .returned (.pointer (some ⟨g, 0, none⟩)) ∧ w.heap.size ≤ g ∧ Below w.heap.size w w' ∧ OkW W ∧ (∀ m, inW W m = true ↔ Eps L 0 m) ∧ Rn w' g ad L.length c W := by
  have hnew := heap_alloc_new w (.cells (pA #[.slice ad L.length c] noW) 103)
  have hB1 : Hid (Below w.heap.size w (w.alloc (.cells (pA #[.slice ad L.length c] noW) 103))) := (Below.refl _ w).alloc (Nat.le_refl _) _
  have hst := hide (callsIn_wide.1 (stand_in 5 (by omega) ad c L 0 w.heap.size #[.slice ad L.length c] 103 noW (w.alloc (.cells (pA #[.slice ad L.length c] noW) 103)) (hL.kept (fun k _ hk => hB1.out.block k hk) (fun k hk h => ⟨by simp; omega, by omega⟩)) hG hlen h0 OkW.no (fun i q h => by have := inW_no i; unfold snW at h; rw [this] at h; cases h) hnew))
  replace hL := hide hL
  generalize hln : L.length = n at *
  go_enter Tryd.func31, Tryd.ntmps31
  go_wp2_with (first | ((with_reducible refine at_build' 103 _ ?_); refine wl_val (run_build103 _ _ _ _ _ _ _ rfl) ?_) | ((with_reducible refine at_box 103 ?_); refine wl_val (run_box103 _ _ _ _ _ _ _ rfl) ?_))
  refine hst.out.mono ?_
  rintro e w2 ⟨⟨v, rfl⟩, hb, W, hW, hin, hg⟩
  replace hin := hide hin
  go_wp2_with fail
  go_ret
  refine ⟨w.heap.size, W, rfl, Nat.le_refl _, hB1.out.trans (hb.below (by simp) (fun k e => by omega)), hW, fun m => ?_, hg⟩
  have := hin.out m
  rw [inW_no] at this
  simpa using this
def chkS (L : List Ins) (s : ByteArray) : Int := if chkI L = 0 then (if 65536 < s.size then 3 else 0) else chkI L
set_option maxHeartbeats 1000000 in
theorem check_sim (ad : Option Addr) (c : Nat) (L : List Ins) (s : ByteArray) (w : World) (hL : HsI w (fun k => k < w.heap.size) ad L) : Calls Tryd.prog 30 #[.slice ad L.length c, .string s] w fun e w' => e = .returned (.int .i64 (chkS L s)) ∧ Below w.heap.size w w' := by
  have H := hide (chk_any ad c L w hL)
  unfold chkS
  generalize chkI L = r at H ⊢
  generalize L.length = n at *
  by_cases h0 : r = 0
  · subst h0
    rw [if_pos rfl]
    by_cases hs : 65536 < s.size
    · rw [if_pos hs]
      have i1 : (65536 : Int) < (s.size : Int) := by omega
      go_enter Tryd.func30, Tryd.ntmps30
      go_wp2_with fail
      refine H.out.mono ?_
      rintro e w1 ⟨rfl, B1⟩
      go_wp2_with fail
      go_ret
      exact ⟨rfl, B1⟩
    · rw [if_neg hs]
      have i1 : ¬ (65536 : Int) < (s.size : Int) := by omega
      go_enter Tryd.func30, Tryd.ntmps30
      go_wp2_with fail
      refine H.out.mono ?_
      rintro e w1 ⟨rfl, B1⟩
      go_wp2_with fail
      go_ret
      exact ⟨rfl, B1⟩
  · rw [if_neg h0]
    have i1 : (r == 0) = false := by simpa using h0
    replace h0 := hide h0
    go_enter Tryd.func30, Tryd.ntmps30
    go_wp2_with fail
    refine H.out.mono ?_
    rintro e w1 ⟨rfl, B1⟩
    go_wp2_with fail
    go_ret
    exact ⟨rfl, B1⟩
end Go.Proofs.YthgdfgkjaepchaaDoor
namespace Go.Proofs.YthgdfgkjaepchaaDoor
open Go.RowKit Go.Shelf
set_option linter.unusedVariables false
set_option linter.unusedSimpArgs false
attribute [local go_sem] Oper.semAt_some

theorem ld5 {w : World} {ad : Addr} {v : Value} (h : w.cell? ad = some v) : (loadVar 5 ad).run Tryd.prog w = .ok v w := by
  have ha : ∀ w, (isAgg 5).run Tryd.prog w = .ok false w := fun w => by kernel_rfl
  simp [loadVar, ha, go_sem, h]
theorem ld129 {w : World} {ad : Addr} {v : Value} (h : w.cell? ad = some v) : (loadVar 129 ad).run Tryd.prog w = .ok v w := by
  have ha : ∀ w, (isAgg 129).run Tryd.prog w = .ok false w := fun w => by kernel_rfl
  simp [loadVar, ha, go_sem, h]
section
variable {F : Fence} {n : Nat} {w w' : World} {ops : Array Oper} {o : Oper} {rest : List Oper} {a : Act} {K : Act → World → Prop} {E : Prop} {Q : Exit → Act → World → Prop} {dst : Option Nat} {x y : Operand} {ty : TypeId} {pos : String} {after : Array Edge}
theorem wpI_ldg (t : TypeId) {ad : Addr} {v : Value} (hF : ∀ f, F.fn f) (ho : o.op = .load t x) (hgd : Region.wanted o (yielded ops a.tmps) = true) (hx : a.eval x = .pointer (some ad)) (hl : (loadVar t ad).run Tryd.prog w = .ok v w) (h : K (a.put o.dst v) w) : if Region.wanted o (yielded ops a.tmps) = true then Oper.wpIn F n Tryd.prog o a w K Q else E := by
  rw [if_pos hgd]
  unfold Oper.wpIn
  refine ⟨fun f _ => hF f, ?_⟩
  rw [Oper.semAt_plain F _ _ (fun c hc => by rw [ho] at hc; cases hc)]
  unfold execOp
  simp only [ho, hx, Instr.loadAt, Instr.sureAddr, Sem.run_bind, Sem.run_pure, Result.andThen_ok, hl]
  exact h
theorem wpI_skip (hw : Region.wanted o (yielded ops a.tmps) = false) (hF : ∀ f, F.fn f) (h : K (a.put o.dst undef) w) : if Region.wanted o (yielded ops a.tmps) = true then Oper.wpIn F n Tryd.prog o a w K Q else (∀ f, o.about Tryd.prog w a.eval = some f → F.fn f) ∧ K (a.put o.dst undef) w := by
  rw [if_neg (by simp [hw])]
  exact ⟨fun f _ => hF f, h⟩
end
section
variable {F : Fence} {n : Nat} {P : Program} {ops : Array Oper} {Q : Exit → Act → World → Prop} {md : Region.Mode}
/-- What an operation that defers nothing does, it does in a round too. -/
theorem opIn_inRound {o : Oper} {a : Act} {w : World} {K : Act → World → Prop} (l : Nat) (hd : ∀ c, o.op ≠ .defer c) (h : Oper.wpIn F n P o a w K Q) : Oper.wpIn (F.inRound l) n P o a w K Q := by
  refine ⟨h.1, ?_⟩
  have h2 := h.2
  rw [Oper.semAt_eq _ _ _ hd] at h2 ⊢
  exact h2
theorem anyIn_inRound (l : Nat) (hd : ∀ (j : Nat) (o : Oper), ops[j]? = some o → ∀ c, o.op ≠ .defer c) : ∀ (fuel : Nat) (listed : Array Bool) (a : Act) (w : World), wpAnyIn F n P md ops Q fuel listed a w → wpAnyIn (F.inRound l) n P md ops Q fuel listed a w := by
  intro fuel
  induction fuel with
  | zero => intro listed a w h; exact h
  | succ fuel ih =>
    intro listed a w h
    refine ⟨h.1, fun i hi => ?_⟩
    have h2 := h.2 i hi
    unfold wpOpIn at h2 ⊢
    cases ho : ops[i]? with
    | none => rw [ho] at h2; exact ih _ _ _ h2
    | some o =>
      rw [ho] at h2
      simp only at h2 ⊢
      by_cases hw : Region.wanted o (yielded ops a.tmps) = true
      · rw [if_pos hw] at h2 ⊢
        exact opIn_inRound l (hd i o ho) (Oper.wpIn_mono (fun a w h => ih _ _ _ h) h2)
      · rw [if_neg hw] at h2 ⊢
        exact ⟨h2.1, ih _ _ _ h2.2⟩
end

theorem noDefer (ops : Array Oper) (h : (ops.toList.all fun o => match o.op with | .defer _ => false | _ => true) = true) : ∀ (j : Nat) (o : Oper), ops[j]? = some o → ∀ c, o.op ≠ .defer c := by
  intro j o ho c hc
  have hm : o ∈ ops.toList := by
    have := Array.mem_of_getElem? ho
    simpa using this
  have := List.all_eq_true.1 h o hm
  rw [hc] at this
  cases this
set_option maxHeartbeats 4000000 in
set_option maxRecDepth 100000 in
theorem reg85_a (l0 n0 : Nat) (w : World) (b o gb gy l : Nat) (q : Ins) (bt : Nat) (hC0 : ∀ w', Below w.heap.size w w' → w'.cell? ⟨b, o, none⟩ = some (.int .i64 q.op) ∧ (loadVar 24 ⟨b, o + 1, none⟩).run Tryd.prog w' = .ok (setV q.s) w' ∧ w'.cell? ⟨b, o + 5, none⟩ = some (.int .i64 q.x) ∧ w'.cell? ⟨gb, 0, none⟩ = some (.int .u8 (bt : Int)) ∧ w'.cell? ⟨gy, 0, none⟩ = some (.func (.yield l) #[] #[])) (hop : (q.op == 1) = false)
    (u0 u1 u2 u5 u7 u8 u9 u10 u11 u12 u13 u14 u15 u16 u17 u18 u19 u20 u21 u22 u23 u24 u25 u26 u27 u28 u29 u30 u31 u32 u33 u34 : Value) (Q : Exit → Act → World → Prop)
    (h : ∀ w', Below w.heap.size w w' → Q .normal { tmps := (List.toArray ((u0 :: u1 :: u2 :: .pointer (some ⟨gb, 0, none⟩) :: .pointer (some ⟨gy, 0, none⟩) :: u5 :: .pointer (some ⟨b, o, none⟩) :: u7 :: u8 :: u9 :: u10 :: u11 :: u12 :: .pointer (some ⟨b, o, none⟩) :: .pointer (some ⟨b, o, none⟩) :: .pointer (some ⟨b, o, none⟩) :: .int .i64 q.op :: .bool false :: .bool false :: undef :: undef :: undef :: undef :: undef :: undef :: .bool false :: .bool false :: undef :: undef :: undef :: undef :: undef :: undef :: undef :: .bool false :: []) : List Value)), defers := [] } w') :
    (Code.region 4 #[{ dst := some 13, op := Op.move (Operand.tmp 6), type := 131, pos := "sim.go:188", after := #[], guard := none }, { dst := some 14, op := Op.nilCheck (Operand.tmp 13), type := 0, pos := "sim.go:188", after := #[{ on := 0, ground := Ground.data }], guard := none }, { dst := some 15, op := Op.fieldAddr 52 (Operand.tmp 14) 0, type := 0, pos := "sim.go:188", after := #[{ on := 1, ground := Ground.data }], guard := none }, { dst := some 16, op := Op.load 3 (Operand.tmp 15), type := 3, pos := "sim.go:188", after := #[{ on := 2, ground := Ground.data }], guard := none }, { dst := some 17, op := Op.binOp BinOp.eql 3 (Operand.tmp 16) (Operand.const (Value.int IntKind.i64 1)) 3, type := 4, pos := "sim.go:188", after := #[{ on := 3, ground := Ground.data }], guard := none }, { dst := some 18, op := Op.move (Operand.tmp 17), type := 4, pos := "sim.go:188", after := #[{ on := 4, ground := Ground.data }], guard := none }, { dst := some 19, op := Op.move (Operand.tmp 6), type := 131, pos := "sim.go:188", after := #[{ on := 5, ground := Ground.guard }], guard := some (5, true) }, { dst := some 20, op := Op.nilCheck (Operand.tmp 19), type := 0, pos := "sim.go:188", after := #[{ on := 6, ground := Ground.data }, { on := 5, ground := Ground.guard }], guard := some (5, true) }, { dst := some 21, op := Op.fieldAddr 52 (Operand.tmp 20) 1, type := 0, pos := "sim.go:188", after := #[{ on := 7, ground := Ground.data }, { on := 5, ground := Ground.guard }], guard := some (5, true) }, { dst := some 22, op := Op.load 24 (Operand.tmp 21), type := 24, pos := "sim.go:188", after := #[{ on := 8, ground := Ground.data }, { on := 5, ground := Ground.guard }], guard := some (5, true) }, { dst := some 23, op := Op.load 5 (Operand.tmp 3), type := 5, pos := "sim.go:188", after := #[{ on := 5, ground := Ground.guard }], guard := some (5, true) }, { dst := some 24, op := Op.call { callee := Callee.value (Operand.func 86), args := #[Operand.tmp 22, Operand.tmp 23], argTypes := #[24, 5] }, type := 4, pos := "sim.go:188", after := #[{ on := 9, ground := Ground.data }, { on := 10, ground := Ground.data }, { on := 5, ground := Ground.chain }, { on := 5, ground := Ground.guard }], guard := some (5, true) }, { dst := some 25, op := Op.pick (Operand.tmp 18) (Operand.tmp 24) (Operand.const (Value.bool false)), type := 4, pos := "sim.go:188", after := #[{ on := 5, ground := Ground.data }, { on := 11, ground := Ground.data }], guard := none }, { dst := some 26, op := Op.move (Operand.tmp 25), type := 4, pos := "sim.go:188", after := #[{ on := 12, ground := Ground.data }, { on := 11, ground := Ground.chain }], guard := none }, { dst := some 27, op := Op.load 129 (Operand.tmp 4), type := 129, pos := "sim.go:188", after := #[{ on := 13, ground := Ground.guard }], guard := some (13, true) }, { dst := some 28, op := Op.move (Operand.tmp 6), type := 131, pos := "sim.go:188", after := #[{ on := 13, ground := Ground.guard }], guard := some (13, true) }, { dst := some 29, op := Op.nilCheck (Operand.tmp 28), type := 0, pos := "sim.go:188", after := #[{ on := 15, ground := Ground.data }, { on := 13, ground := Ground.guard }], guard := some (13, true) }, { dst := some 30, op := Op.fieldAddr 52 (Operand.tmp 29) 2, type := 0, pos := "sim.go:188", after := #[{ on := 16, ground := Ground.data }, { on := 13, ground := Ground.guard }], guard := some (13, true) }, { dst := some 31, op := Op.load 3 (Operand.tmp 30), type := 3, pos := "sim.go:188", after := #[{ on := 17, ground := Ground.data }, { on := 13, ground := Ground.guard }], guard := some (13, true) }, { dst := some 32, op := Op.call { callee := Callee.value (Operand.tmp 27), args := #[Operand.tmp 31], argTypes := #[3] }, type := 4, pos := "sim.go:188", after := #[{ on := 14, ground := Ground.data }, { on := 18, ground := Ground.data }, { on := 13, ground := Ground.chain }, { on := 13, ground := Ground.guard }], guard := some (13, true) }, { dst := some 33, op := Op.unOp UnOp.not 4 (Operand.tmp 32), type := 4, pos := "sim.go:188", after := #[{ on := 19, ground := Ground.data }, { on := 13, ground := Ground.guard }], guard := some (13, true) }, { dst := some 34, op := Op.pick (Operand.tmp 26) (Operand.tmp 33) (Operand.const (Value.bool false)), type := 4, pos := "sim.go:188", after := #[{ on := 13, ground := Ground.data }, { on := 20, ground := Ground.data }], guard := none }] true).wpIn (Fence.wide.inRound l0) n0 Tryd.prog Q { tmps := (List.toArray ((u0 :: u1 :: u2 :: .pointer (some ⟨gb, 0, none⟩) :: .pointer (some ⟨gy, 0, none⟩) :: u5 :: .pointer (some ⟨b, o, none⟩) :: u7 :: u8 :: u9 :: u10 :: u11 :: u12 :: u13 :: u14 :: u15 :: u16 :: u17 :: u18 :: u19 :: u20 :: u21 :: u22 :: u23 :: u24 :: u25 :: u26 :: u27 :: u28 :: u29 :: u30 :: u31 :: u32 :: u33 :: u34 :: []) : List Value)), defers := [] } w := by
  have hD : Below w.heap.size w w.drew := (Below.refl _ w).drew
  have hC := hide hC0
  clear hC0
  replace h := hide h
  refine Code.wpIn_mono NoPanic.imp ?_
  refine wpIn_region_any (by kernel_rfl) ?_
  change wpAnyIn _ _ _ _ _ _ _ _ _ (World.drew w)
  refine anyIn_inRound l0 (noDefer _ (by kernel_rfl)) _ _ _ _ ?_
  refine wpAnyIn_take (i := 0) (oi := { dst := some 13, op := Op.move (Operand.tmp 6), type := 131, pos := "sim.go:188", after := #[], guard := none }) (v := ?_) rfl rfl (by kernel_rfl) (by kernel_rfl) (by kernel_rfl) (fun _ _ _ h => h) ⟨Or.inl ⟨by rfl, ?_⟩, fun _ => rfl⟩ ?_
  rotate_left
  · intro w'
    go_simp
    try with_reducible rfl
  try simp only [Act.put, List.setIfInBounds_toArray, List.set_cons_zero, List.set_cons_succ]
  refine wpAnyIn_take (i := 1) (oi := { dst := some 14, op := Op.nilCheck (Operand.tmp 13), type := 0, pos := "sim.go:188", after := #[{ on := 0, ground := Ground.data }], guard := none }) (v := ?_) rfl rfl (by kernel_rfl) (by kernel_rfl) (by kernel_rfl) (fun _ _ _ h => h) ⟨Or.inl ⟨by rfl, ?_⟩, fun _ => rfl⟩ ?_
  rotate_left
  · intro w'
    go_simp
    try with_reducible rfl
  try simp only [Act.put, List.setIfInBounds_toArray, List.set_cons_zero, List.set_cons_succ]
  refine wpAnyIn_take (i := 2) (oi := { dst := some 15, op := Op.fieldAddr 52 (Operand.tmp 14) 0, type := 0, pos := "sim.go:188", after := #[{ on := 1, ground := Ground.data }], guard := none }) (v := ?_) rfl rfl (by kernel_rfl) (by kernel_rfl) (by kernel_rfl) (fun _ _ _ h => h) ⟨Or.inl ⟨by rfl, ?_⟩, fun _ => rfl⟩ ?_
  rotate_left
  · intro w'
    go_simp
    try with_reducible rfl
  try simp only [Act.put, List.setIfInBounds_toArray, List.set_cons_zero, List.set_cons_succ]
  refine wpAnyIn_ready (rs := [3]) (by kernel_rfl) (by simp) ?_
  refine (AllReadyIn.cons (o := { dst := some 16, op := Op.load 3 (Operand.tmp 15), type := 3, pos := "sim.go:188", after := #[{ on := 2, ground := Ground.data }], guard := none }) rfl (fun K3 hK3 => ?_) AllReadyIn.nil)
  refine wpI_ldg 3 wide_fn rfl (by rfl) rfl (ld3 (hC.out _ hD).1) (hK3 _ _ ?_)
  clear hK3 K3
  try simp only [Act.put, List.setIfInBounds_toArray, List.set_cons_zero, List.set_cons_succ]
  refine wpAnyIn_take (i := 4) (oi := { dst := some 17, op := Op.binOp BinOp.eql 3 (Operand.tmp 16) (Operand.const (Value.int IntKind.i64 1)) 3, type := 4, pos := "sim.go:188", after := #[{ on := 3, ground := Ground.data }], guard := none }) (v := ?_) rfl rfl (by kernel_rfl) (by kernel_rfl) (by kernel_rfl) (fun _ _ _ h => h) ⟨Or.inl ⟨by rfl, ?_⟩, fun _ => rfl⟩ ?_
  rotate_left
  · intro w'
    go_simp
    try with_reducible rfl
  try simp only [Act.put, List.setIfInBounds_toArray, List.set_cons_zero, List.set_cons_succ]
  refine wpAnyIn_take (i := 5) (oi := { dst := some 18, op := Op.move (Operand.tmp 17), type := 4, pos := "sim.go:188", after := #[{ on := 4, ground := Ground.data }], guard := none }) (v := ?_) rfl rfl (by kernel_rfl) (by kernel_rfl) (by kernel_rfl) (fun _ _ _ h => h) ⟨Or.inl ⟨by rfl, ?_⟩, fun _ => rfl⟩ ?_
  rotate_left
  · intro w'
    go_simp
    try with_reducible rfl
  try simp only [Act.put, List.setIfInBounds_toArray, List.set_cons_zero, List.set_cons_succ]
  refine wpAnyIn_take (i := 6) (oi := { dst := some 19, op := Op.move (Operand.tmp 6), type := 131, pos := "sim.go:188", after := #[{ on := 5, ground := Ground.guard }], guard := some (5, true) }) (v := undef) rfl rfl (by kernel_rfl) (by kernel_rfl) (by kernel_rfl) (fun _ _ _ h => h) ⟨Or.inr ⟨by rfl, rfl⟩, fun _ => rfl⟩ ?_
  try simp only [Act.put, List.setIfInBounds_toArray, List.set_cons_zero, List.set_cons_succ]
  refine wpAnyIn_take (i := 7) (oi := { dst := some 20, op := Op.nilCheck (Operand.tmp 19), type := 0, pos := "sim.go:188", after := #[{ on := 6, ground := Ground.data }, { on := 5, ground := Ground.guard }], guard := some (5, true) }) (v := undef) rfl rfl (by kernel_rfl) (by kernel_rfl) (by kernel_rfl) (fun _ _ _ h => h) ⟨Or.inr ⟨by rfl, rfl⟩, fun _ => rfl⟩ ?_
  try simp only [Act.put, List.setIfInBounds_toArray, List.set_cons_zero, List.set_cons_succ]
  refine wpAnyIn_take (i := 8) (oi := { dst := some 21, op := Op.fieldAddr 52 (Operand.tmp 20) 1, type := 0, pos := "sim.go:188", after := #[{ on := 7, ground := Ground.data }, { on := 5, ground := Ground.guard }], guard := some (5, true) }) (v := undef) rfl rfl (by kernel_rfl) (by kernel_rfl) (by kernel_rfl) (fun _ _ _ h => h) ⟨Or.inr ⟨by rfl, rfl⟩, fun _ => rfl⟩ ?_
  try simp only [Act.put, List.setIfInBounds_toArray, List.set_cons_zero, List.set_cons_succ]
  refine wpAnyIn_take (i := 9) (oi := { dst := some 22, op := Op.load 24 (Operand.tmp 21), type := 24, pos := "sim.go:188", after := #[{ on := 8, ground := Ground.data }, { on := 5, ground := Ground.guard }], guard := some (5, true) }) (v := undef) rfl rfl (by kernel_rfl) (by kernel_rfl) (by kernel_rfl) (fun _ _ _ h => h) ⟨Or.inr ⟨by rfl, rfl⟩, fun _ => rfl⟩ ?_
  try simp only [Act.put, List.setIfInBounds_toArray, List.set_cons_zero, List.set_cons_succ]
  refine wpAnyIn_take (i := 10) (oi := { dst := some 23, op := Op.load 5 (Operand.tmp 3), type := 5, pos := "sim.go:188", after := #[{ on := 5, ground := Ground.guard }], guard := some (5, true) }) (v := undef) rfl rfl (by kernel_rfl) (by kernel_rfl) (by kernel_rfl) (fun _ _ _ h => h) ⟨Or.inr ⟨by rfl, rfl⟩, fun _ => rfl⟩ ?_
  try simp only [Act.put, List.setIfInBounds_toArray, List.set_cons_zero, List.set_cons_succ]
  refine wpAnyIn_ready (rs := [11]) (by kernel_rfl) (by simp) ?_
  refine (AllReadyIn.cons (o := { dst := some 24, op := Op.call { callee := Callee.value (Operand.func 86), args := #[Operand.tmp 22, Operand.tmp 23], argTypes := #[24, 5] }, type := 4, pos := "sim.go:188", after := #[{ on := 9, ground := Ground.data }, { on := 10, ground := Ground.data }, { on := 5, ground := Ground.chain }, { on := 5, ground := Ground.guard }], guard := some (5, true) }) rfl (fun K11 hK11 => ?_) AllReadyIn.nil)
  refine wpI_skip (by rfl) wide_fn (hK11 _ _ ?_)
  clear hK11 K11
  try simp only [Act.put, List.setIfInBounds_toArray, List.set_cons_zero, List.set_cons_succ]
  refine wpAnyIn_take (i := 12) (oi := { dst := some 25, op := Op.pick (Operand.tmp 18) (Operand.tmp 24) (Operand.const (Value.bool false)), type := 4, pos := "sim.go:188", after := #[{ on := 5, ground := Ground.data }, { on := 11, ground := Ground.data }], guard := none }) (v := ?_) rfl rfl (by kernel_rfl) (by kernel_rfl) (by kernel_rfl) (fun _ _ _ h => h) ⟨Or.inl ⟨by rfl, ?_⟩, fun _ => rfl⟩ ?_
  rotate_left
  · intro w'
    go_simp
    try with_reducible rfl
  try simp only [Act.put, List.setIfInBounds_toArray, List.set_cons_zero, List.set_cons_succ]
  refine wpAnyIn_take (i := 13) (oi := { dst := some 26, op := Op.move (Operand.tmp 25), type := 4, pos := "sim.go:188", after := #[{ on := 12, ground := Ground.data }, { on := 11, ground := Ground.chain }], guard := none }) (v := ?_) rfl rfl (by kernel_rfl) (by kernel_rfl) (by kernel_rfl) (fun _ _ _ h => h) ⟨Or.inl ⟨by rfl, ?_⟩, fun _ => rfl⟩ ?_
  rotate_left
  · intro w'
    go_simp
    try with_reducible rfl
  try simp only [Act.put, List.setIfInBounds_toArray, List.set_cons_zero, List.set_cons_succ]
  refine wpAnyIn_take (i := 14) (oi := { dst := some 27, op := Op.load 129 (Operand.tmp 4), type := 129, pos := "sim.go:188", after := #[{ on := 13, ground := Ground.guard }], guard := some (13, true) }) (v := undef) rfl rfl (by kernel_rfl) (by kernel_rfl) (by kernel_rfl) (fun _ _ _ h => h) ⟨Or.inr ⟨by rfl, rfl⟩, fun _ => rfl⟩ ?_
  try simp only [Act.put, List.setIfInBounds_toArray, List.set_cons_zero, List.set_cons_succ]
  refine wpAnyIn_take (i := 15) (oi := { dst := some 28, op := Op.move (Operand.tmp 6), type := 131, pos := "sim.go:188", after := #[{ on := 13, ground := Ground.guard }], guard := some (13, true) }) (v := undef) rfl rfl (by kernel_rfl) (by kernel_rfl) (by kernel_rfl) (fun _ _ _ h => h) ⟨Or.inr ⟨by rfl, rfl⟩, fun _ => rfl⟩ ?_
  try simp only [Act.put, List.setIfInBounds_toArray, List.set_cons_zero, List.set_cons_succ]
  refine wpAnyIn_take (i := 16) (oi := { dst := some 29, op := Op.nilCheck (Operand.tmp 28), type := 0, pos := "sim.go:188", after := #[{ on := 15, ground := Ground.data }, { on := 13, ground := Ground.guard }], guard := some (13, true) }) (v := undef) rfl rfl (by kernel_rfl) (by kernel_rfl) (by kernel_rfl) (fun _ _ _ h => h) ⟨Or.inr ⟨by rfl, rfl⟩, fun _ => rfl⟩ ?_
  try simp only [Act.put, List.setIfInBounds_toArray, List.set_cons_zero, List.set_cons_succ]
  refine wpAnyIn_take (i := 17) (oi := { dst := some 30, op := Op.fieldAddr 52 (Operand.tmp 29) 2, type := 0, pos := "sim.go:188", after := #[{ on := 16, ground := Ground.data }, { on := 13, ground := Ground.guard }], guard := some (13, true) }) (v := undef) rfl rfl (by kernel_rfl) (by kernel_rfl) (by kernel_rfl) (fun _ _ _ h => h) ⟨Or.inr ⟨by rfl, rfl⟩, fun _ => rfl⟩ ?_
  try simp only [Act.put, List.setIfInBounds_toArray, List.set_cons_zero, List.set_cons_succ]
  refine wpAnyIn_take (i := 18) (oi := { dst := some 31, op := Op.load 3 (Operand.tmp 30), type := 3, pos := "sim.go:188", after := #[{ on := 17, ground := Ground.data }, { on := 13, ground := Ground.guard }], guard := some (13, true) }) (v := undef) rfl rfl (by kernel_rfl) (by kernel_rfl) (by kernel_rfl) (fun _ _ _ h => h) ⟨Or.inr ⟨by rfl, rfl⟩, fun _ => rfl⟩ ?_
  try simp only [Act.put, List.setIfInBounds_toArray, List.set_cons_zero, List.set_cons_succ]
  refine wpAnyIn_take (i := 19) (oi := { dst := some 32, op := Op.call { callee := Callee.value (Operand.tmp 27), args := #[Operand.tmp 31], argTypes := #[3] }, type := 4, pos := "sim.go:188", after := #[{ on := 14, ground := Ground.data }, { on := 18, ground := Ground.data }, { on := 13, ground := Ground.chain }, { on := 13, ground := Ground.guard }], guard := some (13, true) }) (v := undef) rfl rfl (by kernel_rfl) (by kernel_rfl) (by kernel_rfl) (fun _ _ _ h => h) ⟨Or.inr ⟨by rfl, rfl⟩, fun _ => rfl⟩ ?_
  try simp only [Act.put, List.setIfInBounds_toArray, List.set_cons_zero, List.set_cons_succ]
  refine wpAnyIn_take (i := 20) (oi := { dst := some 33, op := Op.unOp UnOp.not 4 (Operand.tmp 32), type := 4, pos := "sim.go:188", after := #[{ on := 19, ground := Ground.data }, { on := 13, ground := Ground.guard }], guard := some (13, true) }) (v := undef) rfl rfl (by kernel_rfl) (by kernel_rfl) (by kernel_rfl) (fun _ _ _ h => h) ⟨Or.inr ⟨by rfl, rfl⟩, fun _ => rfl⟩ ?_
  try simp only [Act.put, List.setIfInBounds_toArray, List.set_cons_zero, List.set_cons_succ]
  refine wpAnyIn_take (i := 21) (oi := { dst := some 34, op := Op.pick (Operand.tmp 26) (Operand.tmp 33) (Operand.const (Value.bool false)), type := 4, pos := "sim.go:188", after := #[{ on := 13, ground := Ground.data }, { on := 20, ground := Ground.data }], guard := none }) (v := ?_) rfl rfl (by kernel_rfl) (by kernel_rfl) (by kernel_rfl) (fun _ _ _ h => h) ⟨Or.inl ⟨by rfl, ?_⟩, fun _ => rfl⟩ ?_
  rotate_left
  · intro w'
    go_simp
    try with_reducible rfl
  try simp only [Act.put, List.setIfInBounds_toArray, List.set_cons_zero, List.set_cons_succ]
  refine wpAnyIn_done (by kernel_rfl) ?_ _
  refine NoPanic.normal ?_
  exact h.out _ hD
set_option maxHeartbeats 4000000 in
set_option maxRecDepth 100000 in
theorem reg85_b (l0 n0 : Nat) (w : World) (b o gb gy l : Nat) (q : Ins) (bt : Nat) (hC0 : ∀ w', Below w.heap.size w w' → w'.cell? ⟨b, o, none⟩ = some (.int .i64 q.op) ∧ (loadVar 24 ⟨b, o + 1, none⟩).run Tryd.prog w' = .ok (setV q.s) w' ∧ w'.cell? ⟨b, o + 5, none⟩ = some (.int .i64 q.x) ∧ w'.cell? ⟨gb, 0, none⟩ = some (.int .u8 (bt : Int)) ∧ w'.cell? ⟨gy, 0, none⟩ = some (.func (.yield l) #[] #[])) (hop : (q.op == 1) = true) (hs : OkS q.s) (hbt : bt < 256) (hin : inS q.s bt = false)
    (u0 u1 u2 u5 u7 u8 u9 u10 u11 u12 u13 u14 u15 u16 u17 u18 u19 u20 u21 u22 u23 u24 u25 u26 u27 u28 u29 u30 u31 u32 u33 u34 : Value) (Q : Exit → Act → World → Prop)
    (h : ∀ w', Below w.heap.size w w' → Q .normal { tmps := (List.toArray ((u0 :: u1 :: u2 :: .pointer (some ⟨gb, 0, none⟩) :: .pointer (some ⟨gy, 0, none⟩) :: u5 :: .pointer (some ⟨b, o, none⟩) :: u7 :: u8 :: u9 :: u10 :: u11 :: u12 :: .pointer (some ⟨b, o, none⟩) :: .pointer (some ⟨b, o, none⟩) :: .pointer (some ⟨b, o, none⟩) :: .int .i64 q.op :: .bool true :: .bool true :: .pointer (some ⟨b, o, none⟩) :: .pointer (some ⟨b, o, none⟩) :: .pointer (some ⟨b, o + 1, none⟩) :: setV q.s :: .int .u8 (bt : Int) :: .bool false :: .bool false :: .bool false :: undef :: undef :: undef :: undef :: undef :: undef :: undef :: .bool false :: []) : List Value)), defers := [] } w') :
    (Code.region 4 #[{ dst := some 13, op := Op.move (Operand.tmp 6), type := 131, pos := "sim.go:188", after := #[], guard := none }, { dst := some 14, op := Op.nilCheck (Operand.tmp 13), type := 0, pos := "sim.go:188", after := #[{ on := 0, ground := Ground.data }], guard := none }, { dst := some 15, op := Op.fieldAddr 52 (Operand.tmp 14) 0, type := 0, pos := "sim.go:188", after := #[{ on := 1, ground := Ground.data }], guard := none }, { dst := some 16, op := Op.load 3 (Operand.tmp 15), type := 3, pos := "sim.go:188", after := #[{ on := 2, ground := Ground.data }], guard := none }, { dst := some 17, op := Op.binOp BinOp.eql 3 (Operand.tmp 16) (Operand.const (Value.int IntKind.i64 1)) 3, type := 4, pos := "sim.go:188", after := #[{ on := 3, ground := Ground.data }], guard := none }, { dst := some 18, op := Op.move (Operand.tmp 17), type := 4, pos := "sim.go:188", after := #[{ on := 4, ground := Ground.data }], guard := none }, { dst := some 19, op := Op.move (Operand.tmp 6), type := 131, pos := "sim.go:188", after := #[{ on := 5, ground := Ground.guard }], guard := some (5, true) }, { dst := some 20, op := Op.nilCheck (Operand.tmp 19), type := 0, pos := "sim.go:188", after := #[{ on := 6, ground := Ground.data }, { on := 5, ground := Ground.guard }], guard := some (5, true) }, { dst := some 21, op := Op.fieldAddr 52 (Operand.tmp 20) 1, type := 0, pos := "sim.go:188", after := #[{ on := 7, ground := Ground.data }, { on := 5, ground := Ground.guard }], guard := some (5, true) }, { dst := some 22, op := Op.load 24 (Operand.tmp 21), type := 24, pos := "sim.go:188", after := #[{ on := 8, ground := Ground.data }, { on := 5, ground := Ground.guard }], guard := some (5, true) }, { dst := some 23, op := Op.load 5 (Operand.tmp 3), type := 5, pos := "sim.go:188", after := #[{ on := 5, ground := Ground.guard }], guard := some (5, true) }, { dst := some 24, op := Op.call { callee := Callee.value (Operand.func 86), args := #[Operand.tmp 22, Operand.tmp 23], argTypes := #[24, 5] }, type := 4, pos := "sim.go:188", after := #[{ on := 9, ground := Ground.data }, { on := 10, ground := Ground.data }, { on := 5, ground := Ground.chain }, { on := 5, ground := Ground.guard }], guard := some (5, true) }, { dst := some 25, op := Op.pick (Operand.tmp 18) (Operand.tmp 24) (Operand.const (Value.bool false)), type := 4, pos := "sim.go:188", after := #[{ on := 5, ground := Ground.data }, { on := 11, ground := Ground.data }], guard := none }, { dst := some 26, op := Op.move (Operand.tmp 25), type := 4, pos := "sim.go:188", after := #[{ on := 12, ground := Ground.data }, { on := 11, ground := Ground.chain }], guard := none }, { dst := some 27, op := Op.load 129 (Operand.tmp 4), type := 129, pos := "sim.go:188", after := #[{ on := 13, ground := Ground.guard }], guard := some (13, true) }, { dst := some 28, op := Op.move (Operand.tmp 6), type := 131, pos := "sim.go:188", after := #[{ on := 13, ground := Ground.guard }], guard := some (13, true) }, { dst := some 29, op := Op.nilCheck (Operand.tmp 28), type := 0, pos := "sim.go:188", after := #[{ on := 15, ground := Ground.data }, { on := 13, ground := Ground.guard }], guard := some (13, true) }, { dst := some 30, op := Op.fieldAddr 52 (Operand.tmp 29) 2, type := 0, pos := "sim.go:188", after := #[{ on := 16, ground := Ground.data }, { on := 13, ground := Ground.guard }], guard := some (13, true) }, { dst := some 31, op := Op.load 3 (Operand.tmp 30), type := 3, pos := "sim.go:188", after := #[{ on := 17, ground := Ground.data }, { on := 13, ground := Ground.guard }], guard := some (13, true) }, { dst := some 32, op := Op.call { callee := Callee.value (Operand.tmp 27), args := #[Operand.tmp 31], argTypes := #[3] }, type := 4, pos := "sim.go:188", after := #[{ on := 14, ground := Ground.data }, { on := 18, ground := Ground.data }, { on := 13, ground := Ground.chain }, { on := 13, ground := Ground.guard }], guard := some (13, true) }, { dst := some 33, op := Op.unOp UnOp.not 4 (Operand.tmp 32), type := 4, pos := "sim.go:188", after := #[{ on := 19, ground := Ground.data }, { on := 13, ground := Ground.guard }], guard := some (13, true) }, { dst := some 34, op := Op.pick (Operand.tmp 26) (Operand.tmp 33) (Operand.const (Value.bool false)), type := 4, pos := "sim.go:188", after := #[{ on := 13, ground := Ground.data }, { on := 20, ground := Ground.data }], guard := none }] true).wpIn (Fence.wide.inRound l0) n0 Tryd.prog Q { tmps := (List.toArray ((u0 :: u1 :: u2 :: .pointer (some ⟨gb, 0, none⟩) :: .pointer (some ⟨gy, 0, none⟩) :: u5 :: .pointer (some ⟨b, o, none⟩) :: u7 :: u8 :: u9 :: u10 :: u11 :: u12 :: u13 :: u14 :: u15 :: u16 :: u17 :: u18 :: u19 :: u20 :: u21 :: u22 :: u23 :: u24 :: u25 :: u26 :: u27 :: u28 :: u29 :: u30 :: u31 :: u32 :: u33 :: u34 :: []) : List Value)), defers := [] } w := by
  have hD : Below w.heap.size w w.drew := (Below.refl _ w).drew
  have hC := hide hC0
  clear hC0
  replace h := hide h
  refine Code.wpIn_mono NoPanic.imp ?_
  refine wpIn_region_any (by kernel_rfl) ?_
  change wpAnyIn _ _ _ _ _ _ _ _ _ (World.drew w)
  refine anyIn_inRound l0 (noDefer _ (by kernel_rfl)) _ _ _ _ ?_
  refine wpAnyIn_take (i := 0) (oi := { dst := some 13, op := Op.move (Operand.tmp 6), type := 131, pos := "sim.go:188", after := #[], guard := none }) (v := ?_) rfl rfl (by kernel_rfl) (by kernel_rfl) (by kernel_rfl) (fun _ _ _ h => h) ⟨Or.inl ⟨by rfl, ?_⟩, fun _ => rfl⟩ ?_
  rotate_left
  · intro w'
    go_simp
    try with_reducible rfl
  try simp only [Act.put, List.setIfInBounds_toArray, List.set_cons_zero, List.set_cons_succ]
  refine wpAnyIn_take (i := 1) (oi := { dst := some 14, op := Op.nilCheck (Operand.tmp 13), type := 0, pos := "sim.go:188", after := #[{ on := 0, ground := Ground.data }], guard := none }) (v := ?_) rfl rfl (by kernel_rfl) (by kernel_rfl) (by kernel_rfl) (fun _ _ _ h => h) ⟨Or.inl ⟨by rfl, ?_⟩, fun _ => rfl⟩ ?_
  rotate_left
  · intro w'
    go_simp
    try with_reducible rfl
  try simp only [Act.put, List.setIfInBounds_toArray, List.set_cons_zero, List.set_cons_succ]
  refine wpAnyIn_take (i := 2) (oi := { dst := some 15, op := Op.fieldAddr 52 (Operand.tmp 14) 0, type := 0, pos := "sim.go:188", after := #[{ on := 1, ground := Ground.data }], guard := none }) (v := ?_) rfl rfl (by kernel_rfl) (by kernel_rfl) (by kernel_rfl) (fun _ _ _ h => h) ⟨Or.inl ⟨by rfl, ?_⟩, fun _ => rfl⟩ ?_
  rotate_left
  · intro w'
    go_simp
    try with_reducible rfl
  try simp only [Act.put, List.setIfInBounds_toArray, List.set_cons_zero, List.set_cons_succ]
  refine wpAnyIn_ready (rs := [3]) (by kernel_rfl) (by simp) ?_
  refine (AllReadyIn.cons (o := { dst := some 16, op := Op.load 3 (Operand.tmp 15), type := 3, pos := "sim.go:188", after := #[{ on := 2, ground := Ground.data }], guard := none }) rfl (fun K3 hK3 => ?_) AllReadyIn.nil)
  refine wpI_ldg 3 wide_fn rfl (by rfl) rfl (ld3 (hC.out _ hD).1) (hK3 _ _ ?_)
  clear hK3 K3
  try simp only [Act.put, List.setIfInBounds_toArray, List.set_cons_zero, List.set_cons_succ]
  refine wpAnyIn_take (i := 4) (oi := { dst := some 17, op := Op.binOp BinOp.eql 3 (Operand.tmp 16) (Operand.const (Value.int IntKind.i64 1)) 3, type := 4, pos := "sim.go:188", after := #[{ on := 3, ground := Ground.data }], guard := none }) (v := ?_) rfl rfl (by kernel_rfl) (by kernel_rfl) (by kernel_rfl) (fun _ _ _ h => h) ⟨Or.inl ⟨by rfl, ?_⟩, fun _ => rfl⟩ ?_
  rotate_left
  · intro w'
    go_simp
    try with_reducible rfl
  try simp only [Act.put, List.setIfInBounds_toArray, List.set_cons_zero, List.set_cons_succ]
  refine wpAnyIn_take (i := 5) (oi := { dst := some 18, op := Op.move (Operand.tmp 17), type := 4, pos := "sim.go:188", after := #[{ on := 4, ground := Ground.data }], guard := none }) (v := ?_) rfl rfl (by kernel_rfl) (by kernel_rfl) (by kernel_rfl) (fun _ _ _ h => h) ⟨Or.inl ⟨by rfl, ?_⟩, fun _ => rfl⟩ ?_
  rotate_left
  · intro w'
    go_simp
    try with_reducible rfl
  try simp only [Act.put, List.setIfInBounds_toArray, List.set_cons_zero, List.set_cons_succ]
  refine wpAnyIn_take (i := 6) (oi := { dst := some 19, op := Op.move (Operand.tmp 6), type := 131, pos := "sim.go:188", after := #[{ on := 5, ground := Ground.guard }], guard := some (5, true) }) (v := ?_) rfl rfl (by kernel_rfl) (by kernel_rfl) (by kernel_rfl) (fun _ _ _ h => h) ⟨Or.inl ⟨by rfl, ?_⟩, fun _ => rfl⟩ ?_
  rotate_left
  · intro w'
    go_simp
    try with_reducible rfl
  try simp only [Act.put, List.setIfInBounds_toArray, List.set_cons_zero, List.set_cons_succ]
  refine wpAnyIn_take (i := 7) (oi := { dst := some 20, op := Op.nilCheck (Operand.tmp 19), type := 0, pos := "sim.go:188", after := #[{ on := 6, ground := Ground.data }, { on := 5, ground := Ground.guard }], guard := some (5, true) }) (v := ?_) rfl rfl (by kernel_rfl) (by kernel_rfl) (by kernel_rfl) (fun _ _ _ h => h) ⟨Or.inl ⟨by rfl, ?_⟩, fun _ => rfl⟩ ?_
  rotate_left
  · intro w'
    go_simp
    try with_reducible rfl
  try simp only [Act.put, List.setIfInBounds_toArray, List.set_cons_zero, List.set_cons_succ]
  refine wpAnyIn_take (i := 8) (oi := { dst := some 21, op := Op.fieldAddr 52 (Operand.tmp 20) 1, type := 0, pos := "sim.go:188", after := #[{ on := 7, ground := Ground.data }, { on := 5, ground := Ground.guard }], guard := some (5, true) }) (v := ?_) rfl rfl (by kernel_rfl) (by kernel_rfl) (by kernel_rfl) (fun _ _ _ h => h) ⟨Or.inl ⟨by rfl, ?_⟩, fun _ => rfl⟩ ?_
  rotate_left
  · intro w'
    go_simp
    try with_reducible rfl
  try simp only [Act.put, List.setIfInBounds_toArray, List.set_cons_zero, List.set_cons_succ]
  refine wpAnyIn_ready (rs := [9, 10]) (by kernel_rfl) (by simp) ?_
  refine (AllReadyIn.cons (o := { dst := some 22, op := Op.load 24 (Operand.tmp 21), type := 24, pos := "sim.go:188", after := #[{ on := 8, ground := Ground.data }, { on := 5, ground := Ground.guard }], guard := some (5, true) }) rfl (fun K9 hK9 => ?_) (AllReadyIn.cons (o := { dst := some 23, op := Op.load 5 (Operand.tmp 3), type := 5, pos := "sim.go:188", after := #[{ on := 5, ground := Ground.guard }], guard := some (5, true) }) rfl (fun K10 hK10 => ?_) AllReadyIn.nil))
  · refine wpI_ldg 24 wide_fn rfl (by rfl) rfl ((hC.out _ hD).2.1) (hK9 _ _ ?_)
    clear hK9 K9
    try simp only [Act.put, List.setIfInBounds_toArray, List.set_cons_zero, List.set_cons_succ]
    refine wpAnyIn_ready (rs := [10]) (by kernel_rfl) (by simp) ?_
    refine (AllReadyIn.cons (o := { dst := some 23, op := Op.load 5 (Operand.tmp 3), type := 5, pos := "sim.go:188", after := #[{ on := 5, ground := Ground.guard }], guard := some (5, true) }) rfl (fun K10 hK10 => ?_) AllReadyIn.nil)
    refine wpI_ldg 5 wide_fn rfl (by rfl) rfl (ld5 (hC.out _ hD).2.2.2.1) (hK10 _ _ ?_)
    clear hK10 K10
    try simp only [Act.put, List.setIfInBounds_toArray, List.set_cons_zero, List.set_cons_succ]
    refine wpAnyIn_ready (rs := [11]) (by kernel_rfl) (by simp) ?_
    refine (AllReadyIn.cons (o := { dst := some 24, op := Op.call { callee := Callee.value (Operand.func 86), args := #[Operand.tmp 22, Operand.tmp 23], argTypes := #[24, 5] }, type := 4, pos := "sim.go:188", after := #[{ on := 9, ground := Ground.data }, { on := 10, ground := Ground.data }, { on := 5, ground := Ground.chain }, { on := 5, ground := Ground.guard }], guard := some (5, true) }) rfl (fun K11 hK11 => ?_) AllReadyIn.nil)
    go_simp
    refine ⟨trivial, fun h => (by cases h), (callsIn_wide.2 (has86 q.s hs bt hbt _)).mono ?_⟩
    rintro e w4 ⟨rfl, B4⟩
    replace B4 : Below w.heap.size w.drew w4 := B4
    rw [hin]
    refine hK11 _ _ ?_
    clear hK11 K11
    try simp only [Act.put, List.setIfInBounds_toArray, List.set_cons_zero, List.set_cons_succ]
    refine wpAnyIn_take (i := 12) (oi := { dst := some 25, op := Op.pick (Operand.tmp 18) (Operand.tmp 24) (Operand.const (Value.bool false)), type := 4, pos := "sim.go:188", after := #[{ on := 5, ground := Ground.data }, { on := 11, ground := Ground.data }], guard := none }) (v := ?_) rfl rfl (by kernel_rfl) (by kernel_rfl) (by kernel_rfl) (fun _ _ _ h => h) ⟨Or.inl ⟨by rfl, ?_⟩, fun _ => rfl⟩ ?_
    rotate_left
    · intro w'
      go_simp
      try with_reducible rfl
    try simp only [Act.put, List.setIfInBounds_toArray, List.set_cons_zero, List.set_cons_succ]
    refine wpAnyIn_take (i := 13) (oi := { dst := some 26, op := Op.move (Operand.tmp 25), type := 4, pos := "sim.go:188", after := #[{ on := 12, ground := Ground.data }, { on := 11, ground := Ground.chain }], guard := none }) (v := ?_) rfl rfl (by kernel_rfl) (by kernel_rfl) (by kernel_rfl) (fun _ _ _ h => h) ⟨Or.inl ⟨by rfl, ?_⟩, fun _ => rfl⟩ ?_
    rotate_left
    · intro w'
      go_simp
      try with_reducible rfl
    try simp only [Act.put, List.setIfInBounds_toArray, List.set_cons_zero, List.set_cons_succ]
    refine wpAnyIn_take (i := 14) (oi := { dst := some 27, op := Op.load 129 (Operand.tmp 4), type := 129, pos := "sim.go:188", after := #[{ on := 13, ground := Ground.guard }], guard := some (13, true) }) (v := undef) rfl rfl (by kernel_rfl) (by kernel_rfl) (by kernel_rfl) (fun _ _ _ h => h) ⟨Or.inr ⟨by rfl, rfl⟩, fun _ => rfl⟩ ?_
    try simp only [Act.put, List.setIfInBounds_toArray, List.set_cons_zero, List.set_cons_succ]
    refine wpAnyIn_take (i := 15) (oi := { dst := some 28, op := Op.move (Operand.tmp 6), type := 131, pos := "sim.go:188", after := #[{ on := 13, ground := Ground.guard }], guard := some (13, true) }) (v := undef) rfl rfl (by kernel_rfl) (by kernel_rfl) (by kernel_rfl) (fun _ _ _ h => h) ⟨Or.inr ⟨by rfl, rfl⟩, fun _ => rfl⟩ ?_
    try simp only [Act.put, List.setIfInBounds_toArray, List.set_cons_zero, List.set_cons_succ]
    refine wpAnyIn_take (i := 16) (oi := { dst := some 29, op := Op.nilCheck (Operand.tmp 28), type := 0, pos := "sim.go:188", after := #[{ on := 15, ground := Ground.data }, { on := 13, ground := Ground.guard }], guard := some (13, true) }) (v := undef) rfl rfl (by kernel_rfl) (by kernel_rfl) (by kernel_rfl) (fun _ _ _ h => h) ⟨Or.inr ⟨by rfl, rfl⟩, fun _ => rfl⟩ ?_
    try simp only [Act.put, List.setIfInBounds_toArray, List.set_cons_zero, List.set_cons_succ]
    refine wpAnyIn_take (i := 17) (oi := { dst := some 30, op := Op.fieldAddr 52 (Operand.tmp 29) 2, type := 0, pos := "sim.go:188", after := #[{ on := 16, ground := Ground.data }, { on := 13, ground := Ground.guard }], guard := some (13, true) }) (v := undef) rfl rfl (by kernel_rfl) (by kernel_rfl) (by kernel_rfl) (fun _ _ _ h => h) ⟨Or.inr ⟨by rfl, rfl⟩, fun _ => rfl⟩ ?_
    try simp only [Act.put, List.setIfInBounds_toArray, List.set_cons_zero, List.set_cons_succ]
    refine wpAnyIn_take (i := 18) (oi := { dst := some 31, op := Op.load 3 (Operand.tmp 30), type := 3, pos := "sim.go:188", after := #[{ on := 17, ground := Ground.data }, { on := 13, ground := Ground.guard }], guard := some (13, true) }) (v := undef) rfl rfl (by kernel_rfl) (by kernel_rfl) (by kernel_rfl) (fun _ _ _ h => h) ⟨Or.inr ⟨by rfl, rfl⟩, fun _ => rfl⟩ ?_
    try simp only [Act.put, List.setIfInBounds_toArray, List.set_cons_zero, List.set_cons_succ]
    refine wpAnyIn_take (i := 19) (oi := { dst := some 32, op := Op.call { callee := Callee.value (Operand.tmp 27), args := #[Operand.tmp 31], argTypes := #[3] }, type := 4, pos := "sim.go:188", after := #[{ on := 14, ground := Ground.data }, { on := 18, ground := Ground.data }, { on := 13, ground := Ground.chain }, { on := 13, ground := Ground.guard }], guard := some (13, true) }) (v := undef) rfl rfl (by kernel_rfl) (by kernel_rfl) (by kernel_rfl) (fun _ _ _ h => h) ⟨Or.inr ⟨by rfl, rfl⟩, fun _ => rfl⟩ ?_
    try simp only [Act.put, List.setIfInBounds_toArray, List.set_cons_zero, List.set_cons_succ]
    refine wpAnyIn_take (i := 20) (oi := { dst := some 33, op := Op.unOp UnOp.not 4 (Operand.tmp 32), type := 4, pos := "sim.go:188", after := #[{ on := 19, ground := Ground.data }, { on := 13, ground := Ground.guard }], guard := some (13, true) }) (v := undef) rfl rfl (by kernel_rfl) (by kernel_rfl) (by kernel_rfl) (fun _ _ _ h => h) ⟨Or.inr ⟨by rfl, rfl⟩, fun _ => rfl⟩ ?_
    try simp only [Act.put, List.setIfInBounds_toArray, List.set_cons_zero, List.set_cons_succ]
    refine wpAnyIn_take (i := 21) (oi := { dst := some 34, op := Op.pick (Operand.tmp 26) (Operand.tmp 33) (Operand.const (Value.bool false)), type := 4, pos := "sim.go:188", after := #[{ on := 13, ground := Ground.data }, { on := 20, ground := Ground.data }], guard := none }) (v := ?_) rfl rfl (by kernel_rfl) (by kernel_rfl) (by kernel_rfl) (fun _ _ _ h => h) ⟨Or.inl ⟨by rfl, ?_⟩, fun _ => rfl⟩ ?_
    rotate_left
    · intro w'
      go_simp
      try with_reducible rfl
    try simp only [Act.put, List.setIfInBounds_toArray, List.set_cons_zero, List.set_cons_succ]
    refine wpAnyIn_done (by kernel_rfl) ?_ _
    refine NoPanic.normal ?_
    exact h.out _ (hD.trans B4)
  · refine wpI_ldg 5 wide_fn rfl (by rfl) rfl (ld5 (hC.out _ hD).2.2.2.1) (hK10 _ _ ?_)
    clear hK10 K10
    try simp only [Act.put, List.setIfInBounds_toArray, List.set_cons_zero, List.set_cons_succ]
    refine wpAnyIn_ready (rs := [9]) (by kernel_rfl) (by simp) ?_
    refine (AllReadyIn.cons (o := { dst := some 22, op := Op.load 24 (Operand.tmp 21), type := 24, pos := "sim.go:188", after := #[{ on := 8, ground := Ground.data }, { on := 5, ground := Ground.guard }], guard := some (5, true) }) rfl (fun K9 hK9 => ?_) AllReadyIn.nil)
    refine wpI_ldg 24 wide_fn rfl (by rfl) rfl ((hC.out _ hD).2.1) (hK9 _ _ ?_)
    clear hK9 K9
    try simp only [Act.put, List.setIfInBounds_toArray, List.set_cons_zero, List.set_cons_succ]
    refine wpAnyIn_ready (rs := [11]) (by kernel_rfl) (by simp) ?_
    refine (AllReadyIn.cons (o := { dst := some 24, op := Op.call { callee := Callee.value (Operand.func 86), args := #[Operand.tmp 22, Operand.tmp 23], argTypes := #[24, 5] }, type := 4, pos := "sim.go:188", after := #[{ on := 9, ground := Ground.data }, { on := 10, ground := Ground.data }, { on := 5, ground := Ground.chain }, { on := 5, ground := Ground.guard }], guard := some (5, true) }) rfl (fun K11 hK11 => ?_) AllReadyIn.nil)
    go_simp
    refine ⟨trivial, fun h => (by cases h), (callsIn_wide.2 (has86 q.s hs bt hbt _)).mono ?_⟩
    rintro e w4 ⟨rfl, B4⟩
    replace B4 : Below w.heap.size w.drew w4 := B4
    rw [hin]
    refine hK11 _ _ ?_
    clear hK11 K11
    try simp only [Act.put, List.setIfInBounds_toArray, List.set_cons_zero, List.set_cons_succ]
    refine wpAnyIn_take (i := 12) (oi := { dst := some 25, op := Op.pick (Operand.tmp 18) (Operand.tmp 24) (Operand.const (Value.bool false)), type := 4, pos := "sim.go:188", after := #[{ on := 5, ground := Ground.data }, { on := 11, ground := Ground.data }], guard := none }) (v := ?_) rfl rfl (by kernel_rfl) (by kernel_rfl) (by kernel_rfl) (fun _ _ _ h => h) ⟨Or.inl ⟨by rfl, ?_⟩, fun _ => rfl⟩ ?_
    rotate_left
    · intro w'
      go_simp
      try with_reducible rfl
    try simp only [Act.put, List.setIfInBounds_toArray, List.set_cons_zero, List.set_cons_succ]
    refine wpAnyIn_take (i := 13) (oi := { dst := some 26, op := Op.move (Operand.tmp 25), type := 4, pos := "sim.go:188", after := #[{ on := 12, ground := Ground.data }, { on := 11, ground := Ground.chain }], guard := none }) (v := ?_) rfl rfl (by kernel_rfl) (by kernel_rfl) (by kernel_rfl) (fun _ _ _ h => h) ⟨Or.inl ⟨by rfl, ?_⟩, fun _ => rfl⟩ ?_
    rotate_left
    · intro w'
      go_simp
      try with_reducible rfl
    try simp only [Act.put, List.setIfInBounds_toArray, List.set_cons_zero, List.set_cons_succ]
    refine wpAnyIn_take (i := 14) (oi := { dst := some 27, op := Op.load 129 (Operand.tmp 4), type := 129, pos := "sim.go:188", after := #[{ on := 13, ground := Ground.guard }], guard := some (13, true) }) (v := undef) rfl rfl (by kernel_rfl) (by kernel_rfl) (by kernel_rfl) (fun _ _ _ h => h) ⟨Or.inr ⟨by rfl, rfl⟩, fun _ => rfl⟩ ?_
    try simp only [Act.put, List.setIfInBounds_toArray, List.set_cons_zero, List.set_cons_succ]
    refine wpAnyIn_take (i := 15) (oi := { dst := some 28, op := Op.move (Operand.tmp 6), type := 131, pos := "sim.go:188", after := #[{ on := 13, ground := Ground.guard }], guard := some (13, true) }) (v := undef) rfl rfl (by kernel_rfl) (by kernel_rfl) (by kernel_rfl) (fun _ _ _ h => h) ⟨Or.inr ⟨by rfl, rfl⟩, fun _ => rfl⟩ ?_
    try simp only [Act.put, List.setIfInBounds_toArray, List.set_cons_zero, List.set_cons_succ]
    refine wpAnyIn_take (i := 16) (oi := { dst := some 29, op := Op.nilCheck (Operand.tmp 28), type := 0, pos := "sim.go:188", after := #[{ on := 15, ground := Ground.data }, { on := 13, ground := Ground.guard }], guard := some (13, true) }) (v := undef) rfl rfl (by kernel_rfl) (by kernel_rfl) (by kernel_rfl) (fun _ _ _ h => h) ⟨Or.inr ⟨by rfl, rfl⟩, fun _ => rfl⟩ ?_
    try simp only [Act.put, List.setIfInBounds_toArray, List.set_cons_zero, List.set_cons_succ]
    refine wpAnyIn_take (i := 17) (oi := { dst := some 30, op := Op.fieldAddr 52 (Operand.tmp 29) 2, type := 0, pos := "sim.go:188", after := #[{ on := 16, ground := Ground.data }, { on := 13, ground := Ground.guard }], guard := some (13, true) }) (v := undef) rfl rfl (by kernel_rfl) (by kernel_rfl) (by kernel_rfl) (fun _ _ _ h => h) ⟨Or.inr ⟨by rfl, rfl⟩, fun _ => rfl⟩ ?_
    try simp only [Act.put, List.setIfInBounds_toArray, List.set_cons_zero, List.set_cons_succ]
    refine wpAnyIn_take (i := 18) (oi := { dst := some 31, op := Op.load 3 (Operand.tmp 30), type := 3, pos := "sim.go:188", after := #[{ on := 17, ground := Ground.data }, { on := 13, ground := Ground.guard }], guard := some (13, true) }) (v := undef) rfl rfl (by kernel_rfl) (by kernel_rfl) (by kernel_rfl) (fun _ _ _ h => h) ⟨Or.inr ⟨by rfl, rfl⟩, fun _ => rfl⟩ ?_
    try simp only [Act.put, List.setIfInBounds_toArray, List.set_cons_zero, List.set_cons_succ]
    refine wpAnyIn_take (i := 19) (oi := { dst := some 32, op := Op.call { callee := Callee.value (Operand.tmp 27), args := #[Operand.tmp 31], argTypes := #[3] }, type := 4, pos := "sim.go:188", after := #[{ on := 14, ground := Ground.data }, { on := 18, ground := Ground.data }, { on := 13, ground := Ground.chain }, { on := 13, ground := Ground.guard }], guard := some (13, true) }) (v := undef) rfl rfl (by kernel_rfl) (by kernel_rfl) (by kernel_rfl) (fun _ _ _ h => h) ⟨Or.inr ⟨by rfl, rfl⟩, fun _ => rfl⟩ ?_
    try simp only [Act.put, List.setIfInBounds_toArray, List.set_cons_zero, List.set_cons_succ]
    refine wpAnyIn_take (i := 20) (oi := { dst := some 33, op := Op.unOp UnOp.not 4 (Operand.tmp 32), type := 4, pos := "sim.go:188", after := #[{ on := 19, ground := Ground.data }, { on := 13, ground := Ground.guard }], guard := some (13, true) }) (v := undef) rfl rfl (by kernel_rfl) (by kernel_rfl) (by kernel_rfl) (fun _ _ _ h => h) ⟨Or.inr ⟨by rfl, rfl⟩, fun _ => rfl⟩ ?_
    try simp only [Act.put, List.setIfInBounds_toArray, List.set_cons_zero, List.set_cons_succ]
    refine wpAnyIn_take (i := 21) (oi := { dst := some 34, op := Op.pick (Operand.tmp 26) (Operand.tmp 33) (Operand.const (Value.bool false)), type := 4, pos := "sim.go:188", after := #[{ on := 13, ground := Ground.data }, { on := 20, ground := Ground.data }], guard := none }) (v := ?_) rfl rfl (by kernel_rfl) (by kernel_rfl) (by kernel_rfl) (fun _ _ _ h => h) ⟨Or.inl ⟨by rfl, ?_⟩, fun _ => rfl⟩ ?_
    rotate_left
    · intro w'
      go_simp
      try with_reducible rfl
    try simp only [Act.put, List.setIfInBounds_toArray, List.set_cons_zero, List.set_cons_succ]
    refine wpAnyIn_done (by kernel_rfl) ?_ _
    refine NoPanic.normal ?_
    exact h.out _ (hD.trans B4)
set_option maxHeartbeats 4000000 in
set_option maxRecDepth 100000 in
theorem reg85_c (l0 n0 : Nat) (w : World) (b o gb gy l : Nat) (q : Ins) (bt : Nat) (hC0 : ∀ w', Below w.heap.size w w' → w'.cell? ⟨b, o, none⟩ = some (.int .i64 q.op) ∧ (loadVar 24 ⟨b, o + 1, none⟩).run Tryd.prog w' = .ok (setV q.s) w' ∧ w'.cell? ⟨b, o + 5, none⟩ = some (.int .i64 q.x) ∧ w'.cell? ⟨gb, 0, none⟩ = some (.int .u8 (bt : Int)) ∧ w'.cell? ⟨gy, 0, none⟩ = some (.func (.yield l) #[] #[])) (hop : (q.op == 1) = true) (hs : OkS q.s) (hbt : bt < 256) (hin : inS q.s bt = true) (R : Ending → World → Prop) (hY0 : ∀ w', Below w.heap.size w w' → YieldAt Fence.wide (n0 - 1) Tryd.prog l #[.int .i64 q.x] w' R)
    (u0 u1 u2 u5 u7 u8 u9 u10 u11 u12 u13 u14 u15 u16 u17 u18 u19 u20 u21 u22 u23 u24 u25 u26 u27 u28 u29 u30 u31 u32 u33 u34 : Value) (Q : Exit → Act → World → Prop)
    (h : ∀ e W', R e W' → ∃ bb, e = .returned (.bool bb) ∧ Q .normal { tmps := (List.toArray ((u0 :: u1 :: u2 :: .pointer (some ⟨gb, 0, none⟩) :: .pointer (some ⟨gy, 0, none⟩) :: u5 :: .pointer (some ⟨b, o, none⟩) :: u7 :: u8 :: u9 :: u10 :: u11 :: u12 :: .pointer (some ⟨b, o, none⟩) :: .pointer (some ⟨b, o, none⟩) :: .pointer (some ⟨b, o, none⟩) :: .int .i64 q.op :: .bool true :: .bool true :: .pointer (some ⟨b, o, none⟩) :: .pointer (some ⟨b, o, none⟩) :: .pointer (some ⟨b, o + 1, none⟩) :: setV q.s :: .int .u8 (bt : Int) :: .bool true :: .bool true :: .bool true :: .func (.yield l) #[] #[] :: .pointer (some ⟨b, o, none⟩) :: .pointer (some ⟨b, o, none⟩) :: .pointer (some ⟨b, o + 5, none⟩) :: .int .i64 q.x :: .bool bb :: .bool (!bb) :: .bool (!bb) :: []) : List Value)), defers := [] } W') :
    (Code.region 4 #[{ dst := some 13, op := Op.move (Operand.tmp 6), type := 131, pos := "sim.go:188", after := #[], guard := none }, { dst := some 14, op := Op.nilCheck (Operand.tmp 13), type := 0, pos := "sim.go:188", after := #[{ on := 0, ground := Ground.data }], guard := none }, { dst := some 15, op := Op.fieldAddr 52 (Operand.tmp 14) 0, type := 0, pos := "sim.go:188", after := #[{ on := 1, ground := Ground.data }], guard := none }, { dst := some 16, op := Op.load 3 (Operand.tmp 15), type := 3, pos := "sim.go:188", after := #[{ on := 2, ground := Ground.data }], guard := none }, { dst := some 17, op := Op.binOp BinOp.eql 3 (Operand.tmp 16) (Operand.const (Value.int IntKind.i64 1)) 3, type := 4, pos := "sim.go:188", after := #[{ on := 3, ground := Ground.data }], guard := none }, { dst := some 18, op := Op.move (Operand.tmp 17), type := 4, pos := "sim.go:188", after := #[{ on := 4, ground := Ground.data }], guard := none }, { dst := some 19, op := Op.move (Operand.tmp 6), type := 131, pos := "sim.go:188", after := #[{ on := 5, ground := Ground.guard }], guard := some (5, true) }, { dst := some 20, op := Op.nilCheck (Operand.tmp 19), type := 0, pos := "sim.go:188", after := #[{ on := 6, ground := Ground.data }, { on := 5, ground := Ground.guard }], guard := some (5, true) }, { dst := some 21, op := Op.fieldAddr 52 (Operand.tmp 20) 1, type := 0, pos := "sim.go:188", after := #[{ on := 7, ground := Ground.data }, { on := 5, ground := Ground.guard }], guard := some (5, true) }, { dst := some 22, op := Op.load 24 (Operand.tmp 21), type := 24, pos := "sim.go:188", after := #[{ on := 8, ground := Ground.data }, { on := 5, ground := Ground.guard }], guard := some (5, true) }, { dst := some 23, op := Op.load 5 (Operand.tmp 3), type := 5, pos := "sim.go:188", after := #[{ on := 5, ground := Ground.guard }], guard := some (5, true) }, { dst := some 24, op := Op.call { callee := Callee.value (Operand.func 86), args := #[Operand.tmp 22, Operand.tmp 23], argTypes := #[24, 5] }, type := 4, pos := "sim.go:188", after := #[{ on := 9, ground := Ground.data }, { on := 10, ground := Ground.data }, { on := 5, ground := Ground.chain }, { on := 5, ground := Ground.guard }], guard := some (5, true) }, { dst := some 25, op := Op.pick (Operand.tmp 18) (Operand.tmp 24) (Operand.const (Value.bool false)), type := 4, pos := "sim.go:188", after := #[{ on := 5, ground := Ground.data }, { on := 11, ground := Ground.data }], guard := none }, { dst := some 26, op := Op.move (Operand.tmp 25), type := 4, pos := "sim.go:188", after := #[{ on := 12, ground := Ground.data }, { on := 11, ground := Ground.chain }], guard := none }, { dst := some 27, op := Op.load 129 (Operand.tmp 4), type := 129, pos := "sim.go:188", after := #[{ on := 13, ground := Ground.guard }], guard := some (13, true) }, { dst := some 28, op := Op.move (Operand.tmp 6), type := 131, pos := "sim.go:188", after := #[{ on := 13, ground := Ground.guard }], guard := some (13, true) }, { dst := some 29, op := Op.nilCheck (Operand.tmp 28), type := 0, pos := "sim.go:188", after := #[{ on := 15, ground := Ground.data }, { on := 13, ground := Ground.guard }], guard := some (13, true) }, { dst := some 30, op := Op.fieldAddr 52 (Operand.tmp 29) 2, type := 0, pos := "sim.go:188", after := #[{ on := 16, ground := Ground.data }, { on := 13, ground := Ground.guard }], guard := some (13, true) }, { dst := some 31, op := Op.load 3 (Operand.tmp 30), type := 3, pos := "sim.go:188", after := #[{ on := 17, ground := Ground.data }, { on := 13, ground := Ground.guard }], guard := some (13, true) }, { dst := some 32, op := Op.call { callee := Callee.value (Operand.tmp 27), args := #[Operand.tmp 31], argTypes := #[3] }, type := 4, pos := "sim.go:188", after := #[{ on := 14, ground := Ground.data }, { on := 18, ground := Ground.data }, { on := 13, ground := Ground.chain }, { on := 13, ground := Ground.guard }], guard := some (13, true) }, { dst := some 33, op := Op.unOp UnOp.not 4 (Operand.tmp 32), type := 4, pos := "sim.go:188", after := #[{ on := 19, ground := Ground.data }, { on := 13, ground := Ground.guard }], guard := some (13, true) }, { dst := some 34, op := Op.pick (Operand.tmp 26) (Operand.tmp 33) (Operand.const (Value.bool false)), type := 4, pos := "sim.go:188", after := #[{ on := 13, ground := Ground.data }, { on := 20, ground := Ground.data }], guard := none }] true).wpIn (Fence.wide.inRound l0) n0 Tryd.prog Q { tmps := (List.toArray ((u0 :: u1 :: u2 :: .pointer (some ⟨gb, 0, none⟩) :: .pointer (some ⟨gy, 0, none⟩) :: u5 :: .pointer (some ⟨b, o, none⟩) :: u7 :: u8 :: u9 :: u10 :: u11 :: u12 :: u13 :: u14 :: u15 :: u16 :: u17 :: u18 :: u19 :: u20 :: u21 :: u22 :: u23 :: u24 :: u25 :: u26 :: u27 :: u28 :: u29 :: u30 :: u31 :: u32 :: u33 :: u34 :: []) : List Value)), defers := [] } w := by
  have hD : Below w.heap.size w w.drew := (Below.refl _ w).drew
  have hC := hide hC0
  clear hC0
  have hY := hide hY0
  clear hY0
  replace h := hide h
  refine Code.wpIn_mono NoPanic.imp ?_
  refine wpIn_region_any (by kernel_rfl) ?_
  change wpAnyIn _ _ _ _ _ _ _ _ _ (World.drew w)
  refine anyIn_inRound l0 (noDefer _ (by kernel_rfl)) _ _ _ _ ?_
  refine wpAnyIn_take (i := 0) (oi := { dst := some 13, op := Op.move (Operand.tmp 6), type := 131, pos := "sim.go:188", after := #[], guard := none }) (v := ?_) rfl rfl (by kernel_rfl) (by kernel_rfl) (by kernel_rfl) (fun _ _ _ h => h) ⟨Or.inl ⟨by rfl, ?_⟩, fun _ => rfl⟩ ?_
  rotate_left
  · intro w'
    go_simp
    try with_reducible rfl
  try simp only [Act.put, List.setIfInBounds_toArray, List.set_cons_zero, List.set_cons_succ]
  refine wpAnyIn_take (i := 1) (oi := { dst := some 14, op := Op.nilCheck (Operand.tmp 13), type := 0, pos := "sim.go:188", after := #[{ on := 0, ground := Ground.data }], guard := none }) (v := ?_) rfl rfl (by kernel_rfl) (by kernel_rfl) (by kernel_rfl) (fun _ _ _ h => h) ⟨Or.inl ⟨by rfl, ?_⟩, fun _ => rfl⟩ ?_
  rotate_left
  · intro w'
    go_simp
    try with_reducible rfl
  try simp only [Act.put, List.setIfInBounds_toArray, List.set_cons_zero, List.set_cons_succ]
  refine wpAnyIn_take (i := 2) (oi := { dst := some 15, op := Op.fieldAddr 52 (Operand.tmp 14) 0, type := 0, pos := "sim.go:188", after := #[{ on := 1, ground := Ground.data }], guard := none }) (v := ?_) rfl rfl (by kernel_rfl) (by kernel_rfl) (by kernel_rfl) (fun _ _ _ h => h) ⟨Or.inl ⟨by rfl, ?_⟩, fun _ => rfl⟩ ?_
  rotate_left
  · intro w'
    go_simp
    try with_reducible rfl
  try simp only [Act.put, List.setIfInBounds_toArray, List.set_cons_zero, List.set_cons_succ]
  refine wpAnyIn_ready (rs := [3]) (by kernel_rfl) (by simp) ?_
  refine (AllReadyIn.cons (o := { dst := some 16, op := Op.load 3 (Operand.tmp 15), type := 3, pos := "sim.go:188", after := #[{ on := 2, ground := Ground.data }], guard := none }) rfl (fun K3 hK3 => ?_) AllReadyIn.nil)
  refine wpI_ldg 3 wide_fn rfl (by rfl) rfl (ld3 (hC.out _ hD).1) (hK3 _ _ ?_)
  clear hK3 K3
  try simp only [Act.put, List.setIfInBounds_toArray, List.set_cons_zero, List.set_cons_succ]
  refine wpAnyIn_take (i := 4) (oi := { dst := some 17, op := Op.binOp BinOp.eql 3 (Operand.tmp 16) (Operand.const (Value.int IntKind.i64 1)) 3, type := 4, pos := "sim.go:188", after := #[{ on := 3, ground := Ground.data }], guard := none }) (v := ?_) rfl rfl (by kernel_rfl) (by kernel_rfl) (by kernel_rfl) (fun _ _ _ h => h) ⟨Or.inl ⟨by rfl, ?_⟩, fun _ => rfl⟩ ?_
  rotate_left
  · intro w'
    go_simp
    try with_reducible rfl
  try simp only [Act.put, List.setIfInBounds_toArray, List.set_cons_zero, List.set_cons_succ]
  refine wpAnyIn_take (i := 5) (oi := { dst := some 18, op := Op.move (Operand.tmp 17), type := 4, pos := "sim.go:188", after := #[{ on := 4, ground := Ground.data }], guard := none }) (v := ?_) rfl rfl (by kernel_rfl) (by kernel_rfl) (by kernel_rfl) (fun _ _ _ h => h) ⟨Or.inl ⟨by rfl, ?_⟩, fun _ => rfl⟩ ?_
  rotate_left
  · intro w'
    go_simp
    try with_reducible rfl
  try simp only [Act.put, List.setIfInBounds_toArray, List.set_cons_zero, List.set_cons_succ]
  refine wpAnyIn_take (i := 6) (oi := { dst := some 19, op := Op.move (Operand.tmp 6), type := 131, pos := "sim.go:188", after := #[{ on := 5, ground := Ground.guard }], guard := some (5, true) }) (v := ?_) rfl rfl (by kernel_rfl) (by kernel_rfl) (by kernel_rfl) (fun _ _ _ h => h) ⟨Or.inl ⟨by rfl, ?_⟩, fun _ => rfl⟩ ?_
  rotate_left
  · intro w'
    go_simp
    try with_reducible rfl
  try simp only [Act.put, List.setIfInBounds_toArray, List.set_cons_zero, List.set_cons_succ]
  refine wpAnyIn_take (i := 7) (oi := { dst := some 20, op := Op.nilCheck (Operand.tmp 19), type := 0, pos := "sim.go:188", after := #[{ on := 6, ground := Ground.data }, { on := 5, ground := Ground.guard }], guard := some (5, true) }) (v := ?_) rfl rfl (by kernel_rfl) (by kernel_rfl) (by kernel_rfl) (fun _ _ _ h => h) ⟨Or.inl ⟨by rfl, ?_⟩, fun _ => rfl⟩ ?_
  rotate_left
  · intro w'
    go_simp
    try with_reducible rfl
  try simp only [Act.put, List.setIfInBounds_toArray, List.set_cons_zero, List.set_cons_succ]
  refine wpAnyIn_take (i := 8) (oi := { dst := some 21, op := Op.fieldAddr 52 (Operand.tmp 20) 1, type := 0, pos := "sim.go:188", after := #[{ on := 7, ground := Ground.data }, { on := 5, ground := Ground.guard }], guard := some (5, true) }) (v := ?_) rfl rfl (by kernel_rfl) (by kernel_rfl) (by kernel_rfl) (fun _ _ _ h => h) ⟨Or.inl ⟨by rfl, ?_⟩, fun _ => rfl⟩ ?_
  rotate_left
  · intro w'
    go_simp
    try with_reducible rfl
  try simp only [Act.put, List.setIfInBounds_toArray, List.set_cons_zero, List.set_cons_succ]
  refine wpAnyIn_ready (rs := [9, 10]) (by kernel_rfl) (by simp) ?_
  refine (AllReadyIn.cons (o := { dst := some 22, op := Op.load 24 (Operand.tmp 21), type := 24, pos := "sim.go:188", after := #[{ on := 8, ground := Ground.data }, { on := 5, ground := Ground.guard }], guard := some (5, true) }) rfl (fun K9 hK9 => ?_) (AllReadyIn.cons (o := { dst := some 23, op := Op.load 5 (Operand.tmp 3), type := 5, pos := "sim.go:188", after := #[{ on := 5, ground := Ground.guard }], guard := some (5, true) }) rfl (fun K10 hK10 => ?_) AllReadyIn.nil))
  · refine wpI_ldg 24 wide_fn rfl (by rfl) rfl ((hC.out _ hD).2.1) (hK9 _ _ ?_)
    clear hK9 K9
    try simp only [Act.put, List.setIfInBounds_toArray, List.set_cons_zero, List.set_cons_succ]
    refine wpAnyIn_ready (rs := [10]) (by kernel_rfl) (by simp) ?_
    refine (AllReadyIn.cons (o := { dst := some 23, op := Op.load 5 (Operand.tmp 3), type := 5, pos := "sim.go:188", after := #[{ on := 5, ground := Ground.guard }], guard := some (5, true) }) rfl (fun K10 hK10 => ?_) AllReadyIn.nil)
    refine wpI_ldg 5 wide_fn rfl (by rfl) rfl (ld5 (hC.out _ hD).2.2.2.1) (hK10 _ _ ?_)
    clear hK10 K10
    try simp only [Act.put, List.setIfInBounds_toArray, List.set_cons_zero, List.set_cons_succ]
    refine wpAnyIn_ready (rs := [11]) (by kernel_rfl) (by simp) ?_
    refine (AllReadyIn.cons (o := { dst := some 24, op := Op.call { callee := Callee.value (Operand.func 86), args := #[Operand.tmp 22, Operand.tmp 23], argTypes := #[24, 5] }, type := 4, pos := "sim.go:188", after := #[{ on := 9, ground := Ground.data }, { on := 10, ground := Ground.data }, { on := 5, ground := Ground.chain }, { on := 5, ground := Ground.guard }], guard := some (5, true) }) rfl (fun K11 hK11 => ?_) AllReadyIn.nil)
    go_simp
    refine ⟨trivial, fun h => (by cases h), (callsIn_wide.2 (has86 q.s hs bt hbt _)).mono ?_⟩
    rintro e w4 ⟨rfl, B4⟩
    replace B4 : Below w.heap.size w.drew w4 := B4
    rw [hin]
    refine hK11 _ _ ?_
    clear hK11 K11
    try simp only [Act.put, List.setIfInBounds_toArray, List.set_cons_zero, List.set_cons_succ]
    refine wpAnyIn_take (i := 12) (oi := { dst := some 25, op := Op.pick (Operand.tmp 18) (Operand.tmp 24) (Operand.const (Value.bool false)), type := 4, pos := "sim.go:188", after := #[{ on := 5, ground := Ground.data }, { on := 11, ground := Ground.data }], guard := none }) (v := ?_) rfl rfl (by kernel_rfl) (by kernel_rfl) (by kernel_rfl) (fun _ _ _ h => h) ⟨Or.inl ⟨by rfl, ?_⟩, fun _ => rfl⟩ ?_
    rotate_left
    · intro w'
      go_simp
      try with_reducible rfl
    try simp only [Act.put, List.setIfInBounds_toArray, List.set_cons_zero, List.set_cons_succ]
    refine wpAnyIn_take (i := 13) (oi := { dst := some 26, op := Op.move (Operand.tmp 25), type := 4, pos := "sim.go:188", after := #[{ on := 12, ground := Ground.data }, { on := 11, ground := Ground.chain }], guard := none }) (v := ?_) rfl rfl (by kernel_rfl) (by kernel_rfl) (by kernel_rfl) (fun _ _ _ h => h) ⟨Or.inl ⟨by rfl, ?_⟩, fun _ => rfl⟩ ?_
    rotate_left
    · intro w'
      go_simp
      try with_reducible rfl
    try simp only [Act.put, List.setIfInBounds_toArray, List.set_cons_zero, List.set_cons_succ]
    refine wpAnyIn_take (i := 15) (oi := { dst := some 28, op := Op.move (Operand.tmp 6), type := 131, pos := "sim.go:188", after := #[{ on := 13, ground := Ground.guard }], guard := some (13, true) }) (v := ?_) rfl rfl (by kernel_rfl) (by kernel_rfl) (by kernel_rfl) (fun _ _ _ h => h) ⟨Or.inl ⟨by rfl, ?_⟩, fun _ => rfl⟩ ?_
    rotate_left
    · intro w'
      go_simp
      try with_reducible rfl
    try simp only [Act.put, List.setIfInBounds_toArray, List.set_cons_zero, List.set_cons_succ]
    refine wpAnyIn_take (i := 16) (oi := { dst := some 29, op := Op.nilCheck (Operand.tmp 28), type := 0, pos := "sim.go:188", after := #[{ on := 15, ground := Ground.data }, { on := 13, ground := Ground.guard }], guard := some (13, true) }) (v := ?_) rfl rfl (by kernel_rfl) (by kernel_rfl) (by kernel_rfl) (fun _ _ _ h => h) ⟨Or.inl ⟨by rfl, ?_⟩, fun _ => rfl⟩ ?_
    rotate_left
    · intro w'
      go_simp
      try with_reducible rfl
    try simp only [Act.put, List.setIfInBounds_toArray, List.set_cons_zero, List.set_cons_succ]
    refine wpAnyIn_take (i := 17) (oi := { dst := some 30, op := Op.fieldAddr 52 (Operand.tmp 29) 2, type := 0, pos := "sim.go:188", after := #[{ on := 16, ground := Ground.data }, { on := 13, ground := Ground.guard }], guard := some (13, true) }) (v := ?_) rfl rfl (by kernel_rfl) (by kernel_rfl) (by kernel_rfl) (fun _ _ _ h => h) ⟨Or.inl ⟨by rfl, ?_⟩, fun _ => rfl⟩ ?_
    rotate_left
    · intro w'
      go_simp
      try with_reducible rfl
    try simp only [Act.put, List.setIfInBounds_toArray, List.set_cons_zero, List.set_cons_succ]
    refine wpAnyIn_ready (rs := [14, 18]) (by kernel_rfl) (by simp) ?_
    refine (AllReadyIn.cons (o := { dst := some 27, op := Op.load 129 (Operand.tmp 4), type := 129, pos := "sim.go:188", after := #[{ on := 13, ground := Ground.guard }], guard := some (13, true) }) rfl (fun K14 hK14 => ?_) (AllReadyIn.cons (o := { dst := some 31, op := Op.load 3 (Operand.tmp 30), type := 3, pos := "sim.go:188", after := #[{ on := 17, ground := Ground.data }, { on := 13, ground := Ground.guard }], guard := some (13, true) }) rfl (fun K18 hK18 => ?_) AllReadyIn.nil))
    · refine wpI_ldg 129 wide_fn rfl (by rfl) rfl (ld129 (hC.out _ (hD.trans B4)).2.2.2.2) (hK14 _ _ ?_)
      clear hK14 K14
      try simp only [Act.put, List.setIfInBounds_toArray, List.set_cons_zero, List.set_cons_succ]
      refine wpAnyIn_ready (rs := [18]) (by kernel_rfl) (by simp) ?_
      refine (AllReadyIn.cons (o := { dst := some 31, op := Op.load 3 (Operand.tmp 30), type := 3, pos := "sim.go:188", after := #[{ on := 17, ground := Ground.data }, { on := 13, ground := Ground.guard }], guard := some (13, true) }) rfl (fun K18 hK18 => ?_) AllReadyIn.nil)
      refine wpI_ldg 3 wide_fn rfl (by rfl) rfl (ld3 (hC.out _ (hD.trans B4)).2.2.1) (hK18 _ _ ?_)
      clear hK18 K18
      try simp only [Act.put, List.setIfInBounds_toArray, List.set_cons_zero, List.set_cons_succ]
      refine wpAnyIn_ready (rs := [19]) (by kernel_rfl) (by simp) ?_
      refine (AllReadyIn.cons (o := { dst := some 32, op := Op.call { callee := Callee.value (Operand.tmp 27), args := #[Operand.tmp 31], argTypes := #[3] }, type := 4, pos := "sim.go:188", after := #[{ on := 14, ground := Ground.data }, { on := 18, ground := Ground.data }, { on := 13, ground := Ground.chain }, { on := 13, ground := Ground.guard }], guard := some (13, true) }) rfl (fun K19 hK19 => ?_) AllReadyIn.nil)
      obtain ⟨fn, tmps, assign, body, hy, hR⟩ := hY.out w4 (hD.trans B4)
      go_simp
      refine ⟨fun h => (by cases h), hR.mono ?_⟩
      rintro e W3 hRe
      obtain ⟨bb, rfl, hq⟩ := h.out _ _ hRe
      refine hK19 _ _ ?_
      clear hK19 K19
      try simp only [Act.put, List.setIfInBounds_toArray, List.set_cons_zero, List.set_cons_succ]
      refine wpAnyIn_take (i := 20) (oi := { dst := some 33, op := Op.unOp UnOp.not 4 (Operand.tmp 32), type := 4, pos := "sim.go:188", after := #[{ on := 19, ground := Ground.data }, { on := 13, ground := Ground.guard }], guard := some (13, true) }) (v := ?_) rfl rfl (by kernel_rfl) (by kernel_rfl) (by kernel_rfl) (fun _ _ _ h => h) ⟨Or.inl ⟨by rfl, ?_⟩, fun _ => rfl⟩ ?_
      rotate_left
      · intro w'
        go_simp
        try with_reducible rfl
      try simp only [Act.put, List.setIfInBounds_toArray, List.set_cons_zero, List.set_cons_succ]
      refine wpAnyIn_take (i := 21) (oi := { dst := some 34, op := Op.pick (Operand.tmp 26) (Operand.tmp 33) (Operand.const (Value.bool false)), type := 4, pos := "sim.go:188", after := #[{ on := 13, ground := Ground.data }, { on := 20, ground := Ground.data }], guard := none }) (v := ?_) rfl rfl (by kernel_rfl) (by kernel_rfl) (by kernel_rfl) (fun _ _ _ h => h) ⟨Or.inl ⟨by rfl, ?_⟩, fun _ => rfl⟩ ?_
      rotate_left
      · intro w'
        go_simp
        try with_reducible rfl
      try simp only [Act.put, List.setIfInBounds_toArray, List.set_cons_zero, List.set_cons_succ]
      refine wpAnyIn_done (by kernel_rfl) ?_ _
      refine NoPanic.normal ?_
      exact hq
    · refine wpI_ldg 3 wide_fn rfl (by rfl) rfl (ld3 (hC.out _ (hD.trans B4)).2.2.1) (hK18 _ _ ?_)
      clear hK18 K18
      try simp only [Act.put, List.setIfInBounds_toArray, List.set_cons_zero, List.set_cons_succ]
      refine wpAnyIn_ready (rs := [14]) (by kernel_rfl) (by simp) ?_
      refine (AllReadyIn.cons (o := { dst := some 27, op := Op.load 129 (Operand.tmp 4), type := 129, pos := "sim.go:188", after := #[{ on := 13, ground := Ground.guard }], guard := some (13, true) }) rfl (fun K14 hK14 => ?_) AllReadyIn.nil)
      refine wpI_ldg 129 wide_fn rfl (by rfl) rfl (ld129 (hC.out _ (hD.trans B4)).2.2.2.2) (hK14 _ _ ?_)
      clear hK14 K14
      try simp only [Act.put, List.setIfInBounds_toArray, List.set_cons_zero, List.set_cons_succ]
      refine wpAnyIn_ready (rs := [19]) (by kernel_rfl) (by simp) ?_
      refine (AllReadyIn.cons (o := { dst := some 32, op := Op.call { callee := Callee.value (Operand.tmp 27), args := #[Operand.tmp 31], argTypes := #[3] }, type := 4, pos := "sim.go:188", after := #[{ on := 14, ground := Ground.data }, { on := 18, ground := Ground.data }, { on := 13, ground := Ground.chain }, { on := 13, ground := Ground.guard }], guard := some (13, true) }) rfl (fun K19 hK19 => ?_) AllReadyIn.nil)
      obtain ⟨fn, tmps, assign, body, hy, hR⟩ := hY.out w4 (hD.trans B4)
      go_simp
      refine ⟨fun h => (by cases h), hR.mono ?_⟩
      rintro e W3 hRe
      obtain ⟨bb, rfl, hq⟩ := h.out _ _ hRe
      refine hK19 _ _ ?_
      clear hK19 K19
      try simp only [Act.put, List.setIfInBounds_toArray, List.set_cons_zero, List.set_cons_succ]
      refine wpAnyIn_take (i := 20) (oi := { dst := some 33, op := Op.unOp UnOp.not 4 (Operand.tmp 32), type := 4, pos := "sim.go:188", after := #[{ on := 19, ground := Ground.data }, { on := 13, ground := Ground.guard }], guard := some (13, true) }) (v := ?_) rfl rfl (by kernel_rfl) (by kernel_rfl) (by kernel_rfl) (fun _ _ _ h => h) ⟨Or.inl ⟨by rfl, ?_⟩, fun _ => rfl⟩ ?_
      rotate_left
      · intro w'
        go_simp
        try with_reducible rfl
      try simp only [Act.put, List.setIfInBounds_toArray, List.set_cons_zero, List.set_cons_succ]
      refine wpAnyIn_take (i := 21) (oi := { dst := some 34, op := Op.pick (Operand.tmp 26) (Operand.tmp 33) (Operand.const (Value.bool false)), type := 4, pos := "sim.go:188", after := #[{ on := 13, ground := Ground.data }, { on := 20, ground := Ground.data }], guard := none }) (v := ?_) rfl rfl (by kernel_rfl) (by kernel_rfl) (by kernel_rfl) (fun _ _ _ h => h) ⟨Or.inl ⟨by rfl, ?_⟩, fun _ => rfl⟩ ?_
      rotate_left
      · intro w'
        go_simp
        try with_reducible rfl
      try simp only [Act.put, List.setIfInBounds_toArray, List.set_cons_zero, List.set_cons_succ]
      refine wpAnyIn_done (by kernel_rfl) ?_ _
      refine NoPanic.normal ?_
      exact hq
  · refine wpI_ldg 5 wide_fn rfl (by rfl) rfl (ld5 (hC.out _ hD).2.2.2.1) (hK10 _ _ ?_)
    clear hK10 K10
    try simp only [Act.put, List.setIfInBounds_toArray, List.set_cons_zero, List.set_cons_succ]
    refine wpAnyIn_ready (rs := [9]) (by kernel_rfl) (by simp) ?_
    refine (AllReadyIn.cons (o := { dst := some 22, op := Op.load 24 (Operand.tmp 21), type := 24, pos := "sim.go:188", after := #[{ on := 8, ground := Ground.data }, { on := 5, ground := Ground.guard }], guard := some (5, true) }) rfl (fun K9 hK9 => ?_) AllReadyIn.nil)
    refine wpI_ldg 24 wide_fn rfl (by rfl) rfl ((hC.out _ hD).2.1) (hK9 _ _ ?_)
    clear hK9 K9
    try simp only [Act.put, List.setIfInBounds_toArray, List.set_cons_zero, List.set_cons_succ]
    refine wpAnyIn_ready (rs := [11]) (by kernel_rfl) (by simp) ?_
    refine (AllReadyIn.cons (o := { dst := some 24, op := Op.call { callee := Callee.value (Operand.func 86), args := #[Operand.tmp 22, Operand.tmp 23], argTypes := #[24, 5] }, type := 4, pos := "sim.go:188", after := #[{ on := 9, ground := Ground.data }, { on := 10, ground := Ground.data }, { on := 5, ground := Ground.chain }, { on := 5, ground := Ground.guard }], guard := some (5, true) }) rfl (fun K11 hK11 => ?_) AllReadyIn.nil)
    go_simp
    refine ⟨trivial, fun h => (by cases h), (callsIn_wide.2 (has86 q.s hs bt hbt _)).mono ?_⟩
    rintro e w4 ⟨rfl, B4⟩
    replace B4 : Below w.heap.size w.drew w4 := B4
    rw [hin]
    refine hK11 _ _ ?_
    clear hK11 K11
    try simp only [Act.put, List.setIfInBounds_toArray, List.set_cons_zero, List.set_cons_succ]
    refine wpAnyIn_take (i := 12) (oi := { dst := some 25, op := Op.pick (Operand.tmp 18) (Operand.tmp 24) (Operand.const (Value.bool false)), type := 4, pos := "sim.go:188", after := #[{ on := 5, ground := Ground.data }, { on := 11, ground := Ground.data }], guard := none }) (v := ?_) rfl rfl (by kernel_rfl) (by kernel_rfl) (by kernel_rfl) (fun _ _ _ h => h) ⟨Or.inl ⟨by rfl, ?_⟩, fun _ => rfl⟩ ?_
    rotate_left
    · intro w'
      go_simp
      try with_reducible rfl
    try simp only [Act.put, List.setIfInBounds_toArray, List.set_cons_zero, List.set_cons_succ]
    refine wpAnyIn_take (i := 13) (oi := { dst := some 26, op := Op.move (Operand.tmp 25), type := 4, pos := "sim.go:188", after := #[{ on := 12, ground := Ground.data }, { on := 11, ground := Ground.chain }], guard := none }) (v := ?_) rfl rfl (by kernel_rfl) (by kernel_rfl) (by kernel_rfl) (fun _ _ _ h => h) ⟨Or.inl ⟨by rfl, ?_⟩, fun _ => rfl⟩ ?_
    rotate_left
    · intro w'
      go_simp
      try with_reducible rfl
    try simp only [Act.put, List.setIfInBounds_toArray, List.set_cons_zero, List.set_cons_succ]
    refine wpAnyIn_take (i := 15) (oi := { dst := some 28, op := Op.move (Operand.tmp 6), type := 131, pos := "sim.go:188", after := #[{ on := 13, ground := Ground.guard }], guard := some (13, true) }) (v := ?_) rfl rfl (by kernel_rfl) (by kernel_rfl) (by kernel_rfl) (fun _ _ _ h => h) ⟨Or.inl ⟨by rfl, ?_⟩, fun _ => rfl⟩ ?_
    rotate_left
    · intro w'
      go_simp
      try with_reducible rfl
    try simp only [Act.put, List.setIfInBounds_toArray, List.set_cons_zero, List.set_cons_succ]
    refine wpAnyIn_take (i := 16) (oi := { dst := some 29, op := Op.nilCheck (Operand.tmp 28), type := 0, pos := "sim.go:188", after := #[{ on := 15, ground := Ground.data }, { on := 13, ground := Ground.guard }], guard := some (13, true) }) (v := ?_) rfl rfl (by kernel_rfl) (by kernel_rfl) (by kernel_rfl) (fun _ _ _ h => h) ⟨Or.inl ⟨by rfl, ?_⟩, fun _ => rfl⟩ ?_
    rotate_left
    · intro w'
      go_simp
      try with_reducible rfl
    try simp only [Act.put, List.setIfInBounds_toArray, List.set_cons_zero, List.set_cons_succ]
    refine wpAnyIn_take (i := 17) (oi := { dst := some 30, op := Op.fieldAddr 52 (Operand.tmp 29) 2, type := 0, pos := "sim.go:188", after := #[{ on := 16, ground := Ground.data }, { on := 13, ground := Ground.guard }], guard := some (13, true) }) (v := ?_) rfl rfl (by kernel_rfl) (by kernel_rfl) (by kernel_rfl) (fun _ _ _ h => h) ⟨Or.inl ⟨by rfl, ?_⟩, fun _ => rfl⟩ ?_
    rotate_left
    · intro w'
      go_simp
      try with_reducible rfl
    try simp only [Act.put, List.setIfInBounds_toArray, List.set_cons_zero, List.set_cons_succ]
    refine wpAnyIn_ready (rs := [14, 18]) (by kernel_rfl) (by simp) ?_
    refine (AllReadyIn.cons (o := { dst := some 27, op := Op.load 129 (Operand.tmp 4), type := 129, pos := "sim.go:188", after := #[{ on := 13, ground := Ground.guard }], guard := some (13, true) }) rfl (fun K14 hK14 => ?_) (AllReadyIn.cons (o := { dst := some 31, op := Op.load 3 (Operand.tmp 30), type := 3, pos := "sim.go:188", after := #[{ on := 17, ground := Ground.data }, { on := 13, ground := Ground.guard }], guard := some (13, true) }) rfl (fun K18 hK18 => ?_) AllReadyIn.nil))
    · refine wpI_ldg 129 wide_fn rfl (by rfl) rfl (ld129 (hC.out _ (hD.trans B4)).2.2.2.2) (hK14 _ _ ?_)
      clear hK14 K14
      try simp only [Act.put, List.setIfInBounds_toArray, List.set_cons_zero, List.set_cons_succ]
      refine wpAnyIn_ready (rs := [18]) (by kernel_rfl) (by simp) ?_
      refine (AllReadyIn.cons (o := { dst := some 31, op := Op.load 3 (Operand.tmp 30), type := 3, pos := "sim.go:188", after := #[{ on := 17, ground := Ground.data }, { on := 13, ground := Ground.guard }], guard := some (13, true) }) rfl (fun K18 hK18 => ?_) AllReadyIn.nil)
      refine wpI_ldg 3 wide_fn rfl (by rfl) rfl (ld3 (hC.out _ (hD.trans B4)).2.2.1) (hK18 _ _ ?_)
      clear hK18 K18
      try simp only [Act.put, List.setIfInBounds_toArray, List.set_cons_zero, List.set_cons_succ]
      refine wpAnyIn_ready (rs := [19]) (by kernel_rfl) (by simp) ?_
      refine (AllReadyIn.cons (o := { dst := some 32, op := Op.call { callee := Callee.value (Operand.tmp 27), args := #[Operand.tmp 31], argTypes := #[3] }, type := 4, pos := "sim.go:188", after := #[{ on := 14, ground := Ground.data }, { on := 18, ground := Ground.data }, { on := 13, ground := Ground.chain }, { on := 13, ground := Ground.guard }], guard := some (13, true) }) rfl (fun K19 hK19 => ?_) AllReadyIn.nil)
      obtain ⟨fn, tmps, assign, body, hy, hR⟩ := hY.out w4 (hD.trans B4)
      go_simp
      refine ⟨fun h => (by cases h), hR.mono ?_⟩
      rintro e W3 hRe
      obtain ⟨bb, rfl, hq⟩ := h.out _ _ hRe
      refine hK19 _ _ ?_
      clear hK19 K19
      try simp only [Act.put, List.setIfInBounds_toArray, List.set_cons_zero, List.set_cons_succ]
      refine wpAnyIn_take (i := 20) (oi := { dst := some 33, op := Op.unOp UnOp.not 4 (Operand.tmp 32), type := 4, pos := "sim.go:188", after := #[{ on := 19, ground := Ground.data }, { on := 13, ground := Ground.guard }], guard := some (13, true) }) (v := ?_) rfl rfl (by kernel_rfl) (by kernel_rfl) (by kernel_rfl) (fun _ _ _ h => h) ⟨Or.inl ⟨by rfl, ?_⟩, fun _ => rfl⟩ ?_
      rotate_left
      · intro w'
        go_simp
        try with_reducible rfl
      try simp only [Act.put, List.setIfInBounds_toArray, List.set_cons_zero, List.set_cons_succ]
      refine wpAnyIn_take (i := 21) (oi := { dst := some 34, op := Op.pick (Operand.tmp 26) (Operand.tmp 33) (Operand.const (Value.bool false)), type := 4, pos := "sim.go:188", after := #[{ on := 13, ground := Ground.data }, { on := 20, ground := Ground.data }], guard := none }) (v := ?_) rfl rfl (by kernel_rfl) (by kernel_rfl) (by kernel_rfl) (fun _ _ _ h => h) ⟨Or.inl ⟨by rfl, ?_⟩, fun _ => rfl⟩ ?_
      rotate_left
      · intro w'
        go_simp
        try with_reducible rfl
      try simp only [Act.put, List.setIfInBounds_toArray, List.set_cons_zero, List.set_cons_succ]
      refine wpAnyIn_done (by kernel_rfl) ?_ _
      refine NoPanic.normal ?_
      exact hq
    · refine wpI_ldg 3 wide_fn rfl (by rfl) rfl (ld3 (hC.out _ (hD.trans B4)).2.2.1) (hK18 _ _ ?_)
      clear hK18 K18
      try simp only [Act.put, List.setIfInBounds_toArray, List.set_cons_zero, List.set_cons_succ]
      refine wpAnyIn_ready (rs := [14]) (by kernel_rfl) (by simp) ?_
      refine (AllReadyIn.cons (o := { dst := some 27, op := Op.load 129 (Operand.tmp 4), type := 129, pos := "sim.go:188", after := #[{ on := 13, ground := Ground.guard }], guard := some (13, true) }) rfl (fun K14 hK14 => ?_) AllReadyIn.nil)
      refine wpI_ldg 129 wide_fn rfl (by rfl) rfl (ld129 (hC.out _ (hD.trans B4)).2.2.2.2) (hK14 _ _ ?_)
      clear hK14 K14
      try simp only [Act.put, List.setIfInBounds_toArray, List.set_cons_zero, List.set_cons_succ]
      refine wpAnyIn_ready (rs := [19]) (by kernel_rfl) (by simp) ?_
      refine (AllReadyIn.cons (o := { dst := some 32, op := Op.call { callee := Callee.value (Operand.tmp 27), args := #[Operand.tmp 31], argTypes := #[3] }, type := 4, pos := "sim.go:188", after := #[{ on := 14, ground := Ground.data }, { on := 18, ground := Ground.data }, { on := 13, ground := Ground.chain }, { on := 13, ground := Ground.guard }], guard := some (13, true) }) rfl (fun K19 hK19 => ?_) AllReadyIn.nil)
      obtain ⟨fn, tmps, assign, body, hy, hR⟩ := hY.out w4 (hD.trans B4)
      go_simp
      refine ⟨fun h => (by cases h), hR.mono ?_⟩
      rintro e W3 hRe
      obtain ⟨bb, rfl, hq⟩ := h.out _ _ hRe
      refine hK19 _ _ ?_
      clear hK19 K19
      try simp only [Act.put, List.setIfInBounds_toArray, List.set_cons_zero, List.set_cons_succ]
      refine wpAnyIn_take (i := 20) (oi := { dst := some 33, op := Op.unOp UnOp.not 4 (Operand.tmp 32), type := 4, pos := "sim.go:188", after := #[{ on := 19, ground := Ground.data }, { on := 13, ground := Ground.guard }], guard := some (13, true) }) (v := ?_) rfl rfl (by kernel_rfl) (by kernel_rfl) (by kernel_rfl) (fun _ _ _ h => h) ⟨Or.inl ⟨by rfl, ?_⟩, fun _ => rfl⟩ ?_
      rotate_left
      · intro w'
        go_simp
        try with_reducible rfl
      try simp only [Act.put, List.setIfInBounds_toArray, List.set_cons_zero, List.set_cons_succ]
      refine wpAnyIn_take (i := 21) (oi := { dst := some 34, op := Op.pick (Operand.tmp 26) (Operand.tmp 33) (Operand.const (Value.bool false)), type := 4, pos := "sim.go:188", after := #[{ on := 13, ground := Ground.data }, { on := 20, ground := Ground.data }], guard := none }) (v := ?_) rfl rfl (by kernel_rfl) (by kernel_rfl) (by kernel_rfl) (fun _ _ _ h => h) ⟨Or.inl ⟨by rfl, ?_⟩, fun _ => rfl⟩ ?_
      rotate_left
      · intro w'
        go_simp
        try with_reducible rfl
      try simp only [Act.put, List.setIfInBounds_toArray, List.set_cons_zero, List.set_cons_succ]
      refine wpAnyIn_done (by kernel_rfl) ?_ _
      refine NoPanic.normal ?_
      exact hq
end Go.Proofs.YthgdfgkjaepchaaDoor
namespace Go.Proofs.YthgdfgkjaepchaaDoor
open Go.RowKit Go.Shelf
set_option linter.unusedVariables false
set_option linter.unusedSimpArgs false
attribute [local go_sem] Oper.semAt_some

/-- Where a byte leads from an instruction. -/
def ldx (L : List Ins) (b : Nat) (i : Nat) : Option Nat := match L[i]? with
  | some q => if q.op = 1 ∧ inS q.s b = true then some q.x.toNat else none
  | none => none
def ldl (L : List Ins) (b : Nat) (M : List Nat) : List Nat := M.filterMap (ldx L b)
theorem ldl_snoc (L : List Ins) (b : Nat) (M : List Nat) (i : Nat) : ldl L b (M ++ [i]) = ldl L b M ++ (match ldx L b i with | some z => [z] | none => []) := by
  simp only [ldl, List.filterMap_append, List.filterMap_cons, List.filterMap_nil]
  cases ldx L b i <;> rfl
theorem ldl_le (L : List Ins) (b : Nat) (M : List Nat) : (ldl L b M).length ≤ M.length := List.length_filterMap_le _ _
theorem ldx_no {L : List Ins} {b i : Nat} {q : Ins} (h : L[i]? = some q) (hn : ¬ (q.op = 1 ∧ inS q.s b = true)) : ldx L b i = none := by unfold ldx; rw [h]; exact if_neg hn
theorem ldx_yes {L : List Ins} {b i : Nat} {q : Ins} (h : L[i]? = some q) (hn : q.op = 1 ∧ inS q.s b = true) : ldx L b i = some q.x.toNat := by unfold ldx; rw [h]; exact if_pos hn
set_option maxHeartbeats 1000000 in
theorem led_in (n : Nat) (al : Option Addr) (m c : Nat) (ad : Addr) (b : Nat) (w : World) : CallsIn Fence.wide n Tryd.prog 53 #[.slice al m c, .pointer (some ad), .int .u8 (b : Int)] w fun e w' => ∃ gA gL gb, e = .returned (.func (.func 85) #[] #[.pointer (some ⟨gA, 0, none⟩), .pointer (some ⟨gL, 0, none⟩), .pointer (some ⟨gb, 0, none⟩)]) ∧ w'.heap[gA]? = some (.cells #[.pointer (some ad)] 105 (0, 0)) ∧ w'.heap[gL]? = some (.cells #[.slice al m c] 29 (0, 0)) ∧ w'.heap[gb]? = some (.cells #[.int .u8 (b : Int)] 5 (0, 0)) ∧ Below w.heap.size w w' ∧ w.heap.size ≤ gA ∧ w.heap.size ≤ gL ∧ w.heap.size ≤ gb := by
  have hmf : ∀ (fn : Fn) (first cap : Array Value) (w : World), (Instr.makeFunc fn first cap).run Tryd.prog w = .ok (.func fn first cap) w := fun _ _ _ _ => rfl
  have H := (((St.start Nope w).alloc 29 #[.slice al m c]).alloc 105 #[.pointer (some ad)]).alloc 5 #[.int .u8 (b : Int)]
  have g0 := H.get 0 rfl
  have g1 := H.get 1 rfl
  have g2 := H.get 2 rfl
  replace g0 := hide g0
  replace g1 := hide g1
  replace g2 := hide g2
  refine callsIn_of_wp Tryd.func53 rfl trivial ?_ rfl
  simp only [Tryd.ntmps53, List.size_toArray, List.length_cons, List.length_nil, Nat.reduceAdd, Nat.reduceSub, Array.replicate_succ, Array.replicate_zero, List.push_toArray, List.append_toArray, List.nil_append, List.cons_append]
  gi_wp2
  go_ret
  exact ⟨_, _, _, rfl, by simpa using g1.out, by simpa using g2.out, by simpa using g0.out, H.below, by omega, by omega, by omega⟩
theorem own_up {β : Type} {B B' : Nat} {J : β → World → Prop} (h : OwnFrom B J) (hB : B ≤ B') : OwnFrom B' J := fun s A A' row hs hg hr => h s A A' row hs hg (fun r e => ⟨by have := (hr r e).1; omega, (hr r e).2⟩)
theorem own_below {β : Type} {B : Nat} {J : β → World → Prop} (h : OwnFrom B J) {s : β} {W W' : World} (hs : J s W) (hb : Below W.heap.size W W') : J s W' := h s W W' none hs (below_grown hb) (fun r e => by cases e)
theorem keeps_below {B : Nat} {W W' : World} (hb : Below W.heap.size W W') : KeepsFrom B W W' := ⟨hb.size, fun k o _ h _ => (hb.block k (Array.getElem?_eq_some_iff.1 h).1).trans h⟩
theorem cell_get' {w : World} {b o : Nat} {u : Value} (h : w.cell? ⟨b, o, none⟩ = some u) : ∃ cur t fr, w.heap[b]? = some (.cells cur t fr) ∧ cur[o]? = some u := by
  unfold World.cell? at h
  simp only at h
  split at h
  · rename_i cs t fr hb
    exact ⟨cs, t, fr, hb, by simpa using h⟩
  · simp at h
theorem set_in_ins {q : Ins} {j : Nat} {u : Value} (h : (setA q.s)[j]? = some u) : (insA q)[1 + j]? = some u := by
  have hj : j < 4 := by have := (Array.getElem?_eq_some_iff.1 h).1; simpa [setA] using this
  rcases (show j = 0 ∨ j = 1 ∨ j = 2 ∨ j = 3 by omega) with rfl | rfl | rfl | rfl <;> exact h
theorem load24m {w : World} {b o : Nat} {s : S4} (h : ∀ j u, (setA s)[j]? = some u → w.cell? ⟨b, o + j, none⟩ = some u) : (loadVar 24 ⟨b, o, none⟩).run Tryd.prog w = .ok (setV s) w := by
  have := run_loadVar_mid (P := Tryd.prog) w b o 24 (setA s).toList _ (fun j v hv => h j v (by simpa using hv)) Tryd.underlying24 rfl (by rw [size25]; rfl)
  simpa [setV] using this
theorem HsI.kc {X Y : Nat → Prop} {w w' : World} {ad : Option Addr} {L : List Ins} (h : HsI w Y ad L) (hk : Kc X w w') (hY : ∀ k, Y k → ¬ X k) : HsI w' Y ad L := by
  rcases h with rfl | ⟨b, off, cur, t, fr, rfl, hy, hb, hc⟩
  · exact .inl rfl
  · exact .inr ⟨b, off, cur, t, fr, rfl, hy, hk.2 b _ _ _ (hY b hy) hb, hc⟩
theorem Tab.kc {X : Nat → Prop} {w w' : World} (h : Tab w) (hk : Kc X w w') (h0 : ¬ X 0) : Tab w' := fun i hi => by
  have h1 := h i hi
  obtain ⟨cur, t, fr, hb, hc⟩ := cell_get' h1
  rw [cell_of_row w' 0 i cur t fr (hk.2 0 _ _ _ h0 hb)]
  exact hc
theorem Tab.blk {w : World} (h : Tab w) : ∃ cur t fr, w.heap[0]? = some (.cells cur t fr) := by
  obtain ⟨cur, t, fr, hb, hc⟩ := cell_get' (h 0 (by decide))
  exact ⟨cur, t, fr, hb⟩
theorem ko_kc {X : Nat → Prop} {w w' : World} (h : Tab w) (hk : Kc X w w') (h0 : ¬ X 0) : KO 1 (fun _ => False) w w' := ⟨hk.1, fun k hk1 _ _ => by
  obtain rfl : k = 0 := by omega
  obtain ⟨cur, t, fr, hb⟩ := h.blk
  rw [hb]
  exact hk.2 0 _ _ _ h0 hb⟩
/-- What lies still while led's iterator goes on. -/
structure LdI (X : Nat → Prop) (V : World) (gy l : Nat) (W : World) : Prop where
  kc : Kc X V W
  y : W.heap[gy]? = some (.cells #[.func (.yield l) #[] #[]] 129 (0, 0))
theorem kc_grown {X : Nat → Prop} {B : Nat} {W W' : World} {row : Option Nat} (hg : W.grownBy W' row) (hr : ∀ r, row = some r → B ≤ r ∧ ∃ o : Obj, W.heap[r]? = some o ∧ o.isCells = false) : Kc X W W' := ⟨hg.size, fun k cs t fr _ e => (hg.block k (Array.getElem?_eq_some_iff.1 e).1 (fun e2 => by
  obtain ⟨_, o, ho, hc⟩ := hr k e2.symm
  rw [e] at ho
  cases ho
  cases hc)).trans e⟩
theorem LdI.kc2 {X : Nat → Prop} {V : World} {gy l : Nat} {W W' : World} (h : LdI X V gy l W) (hk : Kc X W W') (hy : ¬ X gy) : LdI X V gy l W' := ⟨h.kc.trans hk, hk.2 gy _ _ _ hy h.y⟩
section
variable {F : Fence} {n : Nat} {w w' : World} {ops : Array Oper} {rest : List Oper} {a : Act} {Q : Exit → Act → World → Prop} {dst : Option Nat} {x y : Operand} {ty : TypeId} {pos : String} {after : Array Edge}
theorem wlI_box129 (hF : ∀ f, F.fn f) {f : Fn} {xs ys : Array Value} (hx : a.eval x = .func f xs ys) (h : ∀ g w', w'.heap[g]? = some (.cells #[.func f xs ys] 129 (0, 0)) → Below w.heap.size w w' → w.heap.size ≤ g → wpListIn F n Tryd.prog ops Q rest (a.put dst (.pointer (some ⟨g, 0, none⟩))) w') : wpListIn F n Tryd.prog ops Q (⟨dst, .box 129 x, ty, pos, after, none⟩ :: rest) a w := by
  have e : (execOp a.eval ⟨dst, .box 129 x, ty, pos, after, none⟩).run Tryd.prog w = .ok (.value (.pointer (some ⟨w.heap.size, 0, none⟩))) (w.alloc (.cells #[.func f xs ys] 129)) := by
    unfold execOp
    simp only [hx]
    kernel_rfl
  exact wlI_val hF (fun c => nofun) e (h _ _ (heap_alloc_new w _) ((Below.refl _ w).alloc (Nat.le_refl _) _) (Nat.le_refl _))
end
set_option maxHeartbeats 8000000 in
set_option maxRecDepth 100000 in
theorem led_stops {Pr : Nat → Prop} (X : Nat → Prop) (n : Nat) (h3 : 3 ≤ n) (gA gL gb g : Nat) (pre : Array Value) (t : TypeId) (W : List Nat) (hW : OkW W) (ad : Option Addr) (c : Nat) (L : List Ins) (b : Nat) (hb : b < 256) (w : World)
    (hA : w.heap[gA]? = some (.cells #[.pointer (some ⟨g, pre.size, none⟩)] 105 (0, 0))) (hLb : w.heap[gL]? = some (.cells #[.slice ad L.length c] 29 (0, 0))) (hbb : w.heap[gb]? = some (.cells #[.int .u8 (b : Int)] 5 (0, 0))) (hg : w.heap[g]? = some (.cells (pA pre W) t (0, 0))) (hT : Tab w)
    (hI : HsI w (fun k => ¬ X k) ad L) (hok : ∀ q ∈ L, OkS q.s) (hG : GoL L) (hin : ∀ i, inW W i = true → i < L.length)
    (h0 : ¬ X 0) (kL : ¬ X gL) (kb : ¬ X gb) (hX : ∀ k, w.heap.size ≤ k → ¬ X k) (hPr : ∀ z ∈ ldl L b (mems W), Pr z) :
    SeqO Fence.wide n Tryd.prog 85 #[.pointer (some ⟨gA, 0, none⟩), .pointer (some ⟨gL, 0, none⟩), .pointer (some ⟨gb, 0, none⟩)] (encN (Pr := Pr)) (Kc X) (fun xs => xs.map (·.1) = ldl L b (mems W)) (fun _ => True) ((mems W).length + 1) w := fun l J Jx V hV hJ hJx hYY hJ0 => by
  have hs0 := hV.size
  have lA := (Array.getElem?_eq_some_iff.1 hA).1
  have lL := (Array.getElem?_eq_some_iff.1 hLb).1
  have lb := (Array.getElem?_eq_some_iff.1 hbb).1
  have cA := cell_row ((hV.block gA lA).trans hA) 0 (v := .pointer (some ⟨g, pre.size, none⟩)) rfl
  have hLV : Hid (V.heap[gL]? = some (.cells #[.slice ad L.length c] 29 (0, 0))) := (hV.block gL lL).trans hLb
  have hbV : Hid (V.heap[gb]? = some (.cells #[.int .u8 (b : Int)] 5 (0, 0))) := (hV.block gb lb).trans hbb
  have hgV : Hid (V.heap[g]? = some (.cells (pA pre W) t (0, 0))) := (hV.block g (Array.getElem?_eq_some_iff.1 hg).1).trans hg
  have hTV : Hid (Tab V) := hT.below hV
  have hIV : Hid (HsI V (fun k => ¬ X k) ad L) := hI.kept (fun k _ hk => hV.block k hk) (fun k _ h => h)
  replace hYY := hide hYY
  replace hJ := hide hJ
  replace hJx := hide hJx
  replace hJ0 := hide hJ0
  replace hok := hide hok
  replace hG := hide hG
  replace hin := hide hin
  replace hW := hide hW
  replace hX := hide hX
  replace hPr := hide hPr
  clear hA hLb hbb hg hT hI hV
  show CallsIn Fence.wide n Tryd.prog 85 #[.func (.yield l) #[] #[], .pointer (some ⟨gA, 0, none⟩), .pointer (some ⟨gL, 0, none⟩), .pointer (some ⟨gb, 0, none⟩)] V _
  refine callsIn_of_wp_marks Tryd.func85 rfl trivial ?_ rfl
  simp only [Tryd.ntmps85, List.size_toArray, List.length_cons, List.length_nil, Nat.reduceAdd, Nat.reduceSub, Array.replicate_succ, Array.replicate_zero, List.push_toArray, List.append_toArray, List.nil_append, List.cons_append]
  gi_wp2_with (first | ((with_reducible refine atI_box 129 ?_); refine wlI_box129 wide_fn rfl ?_; intro gy w1 hy1 B1 n1; have cA1 := (B1.cell (p := ⟨gA, 0, none⟩) (by show gA < V.heap.size; omega)).trans cA; clear cA; replace hy1 := hide hy1; replace B1 := hide B1) | ((with_reducible refine atI_load 105 ?_); refine wlI_load 105 wide_fn rfl (ld105 cA1) ?_))
  refine ⟨trivial, fun h => (by cases h), (all_in _ _ _).mono ?_⟩
  rintro e w2 ⟨gB, rfl, hbB, B2, hgB⟩
  have hs1 := B1.out.size
  have hs2 := B2.size
  have BV : Below V.heap.size V w2 := B1.out.trans (B2.mono hs1)
  have ly := (Array.getElem?_eq_some_iff.1 hy1.out).1
  have hyX : Hid (¬ X gy) := hX.out gy (by omega)
  have I0 : LdI X V gy l w2 := ⟨Kc.below BV (Nat.le_refl _), (B2.block gy ly).trans hy1.out⟩
  have hst := all_stops (Pr := fun i => i < L.length ∧ i ∈ mems W) 1 (fun _ => False) (n - 1) gB g pre t W hW.out w2 hbB ((BV.block g (Array.getElem?_eq_some_iff.1 hgV.out).1).trans hgV.out) (hTV.out.below BV) (by decide) (fun h => h) (fun i hi => ⟨hin.out i ((mem_mems hW.out i).1 hi), hi⟩)
  have J0 : J [] w2 := own_below hJ.out hJ0.out BV
  clear cA1
  replace B2 := hide B2
  replace hbB := hide hbB
  replace BV := hide BV
  gi_wp2
  refine wpIn_rangeFunc_ownH rfl (by omega) (gf := 88) (lb := #[.pointer (some ⟨gB, 0, none⟩)]) rfl (wide_fn 88) (enters_of Tryd.func88 (by kernel_rfl) rfl)
    hst (fun h k => h.trans k) (fun Wd l o o' hl ho hc _ => ⟨by simp [World.putObj], fun k hk hlt hX => (grownBy_putObj' Wd l o').block k hlt (fun h => by cases h; omega)⟩) (Below.refl _ w2) (fun _ => rfl)
    (fun pr Wd => ∃ xs : List { z : Nat // Pr z }, xs.map (·.1) = ldl L b (pr.map (·.1)) ∧ J xs Wd ∧ LdI X V gy l Wd)
    (fun cc pr Wd => cc = .ret ∧ ∃ p, Jx p Wd)
    (fun pr Wd Wd' row hs hg' hr => by
      obtain ⟨xs, e1, e2, e3⟩ := hs
      exact ⟨xs, e1, own_up hJ.out (by omega) _ _ _ _ e2 hg' hr, e3.kc2 (kc_grown hg' hr) hyX.out⟩)
    (fun cc pr Wd Wd' row hs hg' hr => ⟨hs.1, hs.2.elim fun p hp => ⟨p, own_up hJx.out (by omega) _ _ _ _ hp hg' hr⟩⟩) ⟨[], rfl, J0, I0⟩
    (fun i a' Wd => ∃ (u6 u7 u8 u9 u10 u11 u12 u13 u14 u15 u16 u17 u18 u19 u20 u21 u22 u23 u24 u25 u26 u27 u28 u29 u30 u31 u32 u33 u34 : Value), a' = { tmps := #[.func (.yield l) #[] #[], .pointer (some ⟨gA, 0, none⟩), .pointer (some ⟨gL, 0, none⟩), .pointer (some ⟨gb, 0, none⟩), .pointer (some ⟨gy, 0, none⟩), .int .i64 (i.1 : Int), u6, u7, u8, u9, u10, u11, u12, u13, u14, u15, u16, u17, u18, u19, u20, u21, u22, u23, u24, u25, u26, u27, u28, u29, u30, u31, u32, u33, u34], defers := [] })
    (fun x a' _ Wd Wd' row hs hg' hr => hs) ?assign ?body ?done ?stop
  case assign =>
    intro l2 pr x Wd K hi hK
    simp only [encN, List.zip_toArray, List.zip_cons_cons, List.zip_nil_left, List.zip_nil_right, List.foldl_toArray, List.foldl_cons, List.foldl_nil, List.setIfInBounds_toArray, List.set_cons_zero, List.set_cons_succ]
    replace hK := hide hK
    replace hi := hide hi
    gi_wp2
    exact hK.out _ Wd ⟨Nat.le_refl _, fun _ _ _ h _ => h⟩ (KO.refl _ _ _) hi.out ⟨_, _, _, _, _, _, _, _, _, _, _, _, _, _, _, _, _, _, _, _, _, _, _, _, _, _, _, _, _, rfl⟩
  case body =>
    rintro l2 pr ⟨i, hil, him⟩ a' Wd hl ⟨r, hr⟩ ⟨xs, hxs, hj, hd⟩ ⟨u6, u7, u8, u9, u10, u11, u12, u13, u14, u15, u16, u17, u18, u19, u20, u21, u22, u23, u24, u25, u26, u27, u28, u29, u30, u31, u32, u33, u34, rfl⟩ hlt
    obtain ⟨q, hq⟩ : ∃ q, L[i]? = some q := ⟨_, List.getElem?_eq_getElem hil⟩
    have hqm := List.mem_of_getElem? hq
    have hId := hIV.out.kc hd.kc (fun k h => h)
    obtain ⟨bb, off, cur, tt, fr, rfl, hbX, hcb, hcc⟩ : ∃ b off cur t fr, ad = some ⟨b, off, none⟩ ∧ ¬ X b ∧ Wd.heap[b]? = some (.cells cur t fr) ∧ ∀ k i, L[k]? = some i → ∀ j u, (insA i)[j]? = some u → cur[off + k * 7 + j]? = some u := by
      rcases hId with h | h
      · rw [h] at hq; simp at hq
      · exact h
    have hLd := hd.kc.2 gL _ _ _ kL hLV.out
    have hbd := hd.kc.2 gb _ _ _ kb hbV.out
    have cL := cell_row hLd 0 (v := .slice (some ⟨bb, off, none⟩) L.length c) rfl
    have hTd := hTV.out.kc hd.kc h0
    have hC : ∀ w', Below Wd.heap.size Wd w' → w'.cell? ⟨bb, off + i * 7, none⟩ = some (.int .i64 q.op) ∧ (loadVar 24 ⟨bb, off + i * 7 + 1, none⟩).run Tryd.prog w' = .ok (setV q.s) w' ∧ w'.cell? ⟨bb, off + i * 7 + 5, none⟩ = some (.int .i64 q.x) ∧ w'.cell? ⟨gb, 0, none⟩ = some (.int .u8 (b : Int)) ∧ w'.cell? ⟨gy, 0, none⟩ = some (.func (.yield l) #[] #[]) := fun w' hb' => by
      have e1 := (hb'.block bb (Array.getElem?_eq_some_iff.1 hcb).1).trans hcb
      have e2 := (hb'.block gb (Array.getElem?_eq_some_iff.1 hbd).1).trans hbd
      have e3 := (hb'.block gy (Array.getElem?_eq_some_iff.1 hd.y).1).trans hd.y
      have ce : ∀ j u, (insA q)[j]? = some u → w'.cell? ⟨bb, off + i * 7 + j, none⟩ = some u := fun j u hj => by
        rw [cell_of_row w' bb _ _ tt fr e1]; exact hcc i q hq j u hj
      exact ⟨ce 0 _ rfl, load24m (fun j u hj => by
        have := ce (1 + j) u (by simpa [insA] using set_in_ins hj)
        rwa [← Nat.add_assoc] at this), ce 5 _ rfl, cell_row e2 0 rfl, cell_row e3 0 rfl⟩
    have i1 : (i : Int) < (L.length : Int) := by omega
    have hdH := hide hd
    have hjH := hide hj
    have hTH := hide hTd
    have hsd : V.heap.size ≤ Wd.heap.size := hd.kc.1
    replace hxs := hide hxs
    replace hr := hide hr
    replace hq := hide hq
    replace hId := hide hId
    replace hcb := hide hcb
    replace hcc := hide hcc
    replace hLd := hide hLd
    replace hbd := hide hbd
    have hCH := hide hC
    have him := hide him
    clear hd hj hTd hC
    gi_wp2_with (first | ((with_reducible refine atI_load 29 ?_); refine wlI_load 29 (round_fn l2) rfl (ld29 cL) ?_))
    by_cases hop : q.op = 1
    · cases hi : inS q.s b with
      | true =>
        have hz := ldx_yes hq.out ⟨hop, hi⟩
        have hzm : q.x.toNat ∈ ldl L b (mems W) := List.mem_filterMap.2 ⟨i, him.out, hz⟩
        have hzp := hPr.out _ hzm
        have hx0 := (hG.out q hqm).1 (.inr (.inr hop))
        have hxe : q.x = ((q.x.toNat : Nat) : Int) := by omega
        refine reg85_c l2 _ Wd bb (off + i * 7) gb gy l q b hCH.out (by simp [hop]) (hok.out q hqm) hb hi (fun e W' => (e = .returned (.bool true) ∧ J (xs ++ [⟨q.x.toNat, hzp⟩]) W' ∧ Kc X Wd W' ∧ KeepsFrom w2.heap.size Wd W') ∨ (e = .returned (.bool false) ∧ Jx (xs ++ [⟨q.x.toNat, hzp⟩]) W' ∧ KeepsFrom w2.heap.size Wd W')) (fun w' hb' => ?_) _ _ _ _ _ _ _ _ _ _ _ _ _ _ _ _ _ _ _ _ _ _ _ _ _ _ _ _ _ _ _ _ _ ?_
        · have := hYY.out xs ⟨q.x.toNat, hzp⟩ w' (own_below hJ.out hjH.out hb') (by
            have e1 := congrArg List.length hxs.out
            have e2 := ldl_le L b (pr.map (·.1))
            simp at e1 e2
            omega)
          simp only [encN] at this
          rw [← hxe] at this
          refine (yield_wide this).mono ?_
          rintro e W' ⟨k1, (⟨rfl, k2, k3⟩ | ⟨rfl, k2⟩)⟩
          · exact .inl ⟨rfl, k2, (Kc.below hb' (Nat.le_refl _)).trans k3, (keeps_below hb').trans ⟨k1.size, fun k o hk => k1.same k o (by omega)⟩⟩
          · exact .inr ⟨rfl, k2, (keeps_below hb').trans ⟨k1.size, fun k o hk => k1.same k o (by omega)⟩⟩
        · rintro e W' (⟨rfl, k2, k3, k4⟩ | ⟨rfl, k2, k4⟩)
          · refine ⟨true, rfl, ?_⟩
            replace k2 := hide k2
            replace k3 := hide k3
            replace k4 := hide k4
            gi_wp2
            refine ⟨k4.out, ko_kc hTH.out k3.out h0, _, ?_, k2.out, hdH.out.kc2 k3.out hyX.out⟩
            have := hxs.out
            rw [List.map_append, List.map_append, this]
            show _ = ldl L b (pr.map (·.1) ++ [i])
            rw [ldl_snoc, hz]
            rfl
          · refine ⟨false, rfl, ?_⟩
            replace k2 := hide k2
            replace k4 := hide k4
            gi_wp2
            exact ⟨k4.out, rfl, _, k2.out⟩
      | false =>
        have hz := ldx_no hq.out (b := b) (fun h => by rw [hi] at h; cases h.2)
        refine reg85_b l2 _ Wd bb (off + i * 7) gb gy l q b hCH.out (by simp [hop]) (hok.out q hqm) hb hi _ _ _ _ _ _ _ _ _ _ _ _ _ _ _ _ _ _ _ _ _ _ _ _ _ _ _ _ _ _ _ _ _ (fun w' hb' => ?_)
        replace hb' := hide hb'
        gi_wp2
        refine ⟨keeps_below hb'.out, KO.below hb'.out (Nat.le_refl _), xs, ?_, own_below hJ.out hjH.out hb'.out, hdH.out.kc2 (Kc.below hb'.out (Nat.le_refl _)) hyX.out⟩
        have := hxs.out
        rw [List.map_append, this]
        show _ = ldl L b (pr.map (·.1) ++ [i])
        rw [ldl_snoc, hz, List.append_nil]
    · have hz := ldx_no hq.out (b := b) (fun h => hop h.1)
      refine reg85_a l2 _ Wd bb (off + i * 7) gb gy l q b hCH.out (by simpa using hop) _ _ _ _ _ _ _ _ _ _ _ _ _ _ _ _ _ _ _ _ _ _ _ _ _ _ _ _ _ _ _ _ _ (fun w' hb' => ?_)
      replace hb' := hide hb'
      gi_wp2
      refine ⟨keeps_below hb'.out, KO.below hb'.out (Nat.le_refl _), xs, ?_, own_below hJ.out hjH.out hb'.out, hdH.out.kc2 (Kc.below hb'.out (Nat.le_refl _)) hyX.out⟩
      have := hxs.out
      rw [List.map_append, this]
      show _ = ldl L b (pr.map (·.1) ++ [i])
      rw [ldl_snoc, hz, List.append_nil]
  case done =>
    rintro D xs Wd hD hS ⟨ys, hys, hj, hd⟩ hK
    rw [hS] at hys
    replace hys := hide hys
    replace hj := hide hj
    replace hd := hide hd
    replace hK := hide hK
    gi_wp2
    refine ⟨by simp, .inl ⟨_, _, rfl, run_takeDeferred hK.out, ?_⟩⟩
    refine ⟨_, results_none rfl _ _ _, ⟨_, rfl⟩, .inl ⟨ys, hys.out, hJ.out.putObj _ hj.out (by omega) hK.out rfl⟩⟩
  case stop =>
    rintro D cc pr Wd hD hS ⟨rfl, p, hp⟩ hK
    replace hp := hide hp
    replace hK := hide hK
    gi_wp2
    refine ⟨by simp, .inl ⟨_, _, rfl, run_takeDeferred hK.out, ?_⟩⟩
    refine ⟨_, results_none rfl _ _ _, ⟨_, rfl⟩, .inr ⟨p, trivial, hJx.out.putObj _ hp.out (by omega) hK.out rfl⟩⟩
end Go.Proofs.YthgdfgkjaepchaaDoor
