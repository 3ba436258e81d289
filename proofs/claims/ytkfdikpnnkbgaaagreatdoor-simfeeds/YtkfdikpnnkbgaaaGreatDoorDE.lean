/-
  Check of any instructions.
-/
import Derived.Test.YtkfdikpnnkbgaaaGreatDoorDD
namespace Go.Proofs.YtkfdikpnnkbgaaaGreatDoor
open Go.RowKit Go.Shelf
set_option linter.unusedVariables false
set_option linter.unusedSimpArgs false
attribute [local go_sem] Oper.semAt_some

/-- What Check answers. -/
def chkI (L : List Ins) : Int := if L.length = 0 ∨ 2048 < L.length then 110 else if L.all (fun i => fitI i L.length) = true then 0 else 110
theorem one30 : ∀ w, (sizeOf 31).run Tryz.prog w = .ok 1 w := fun w => by kernel_rfl
theorem ld30 {w : World} {ad : Addr} {v : Value} (h : w.cell? ad = some v) : (loadVar 31 ad).run Tryz.prog w = .ok v w := by
  have ha : ∀ w, (isAgg 31).run Tryz.prog w = .ok false w := fun w => by kernel_rfl
  simp [loadVar, ha, go_sem, h]
theorem run_st30 {w : World} {g : Nat} {u : Value} {v : Int} (h : w.heap[g]? = some (.cells #[u] 31 (0, 0))) : (storeVar 31 ⟨g, 0, none⟩ (.int .i64 v)).run Tryz.prog w = .ok () (w.setCell ⟨g, 0, none⟩ (.int .i64 v)) := by
  have hc := cell_row h 0 (v := u) rfl
  have hf := frozen_of_row w g 0 _ 31 h
  have e : (storeCells ⟨g, 0, none⟩ [.int .i64 v]).run Tryz.prog w = .ok () (w.setCell ⟨g, 0, none⟩ (.int .i64 v)) := by simp [storeCells, go_sem, stored, hc, hf]
  have e4 : (Value.int .i64 v).cells = #[.int .i64 v] := rfl
  unfold storeVar
  simp only [Sem.run_bind, one30, Result.andThen_ok, e4]
  simpa using e
section
variable {S : Nat → Prop} {w0 : World} {L : List Ent} {F : Fence} {n : Nat} {w w' : World} {ops : Array Oper} {rest : List Oper} {a : Act} {Q : Exit → Act → World → Prop} {dst : Option Nat} {x y : Operand} {ty : TypeId} {pos : String} {after : Array Edge}
theorem wlI_st30 (hF : ∀ f, F.fn f) {g : Nat} {u : Value} {v : Int} (hg : w.heap[g]? = some (.cells #[u] 31 (0, 0))) (hx : a.eval x = .pointer (some ⟨g, 0, none⟩)) (hy : a.eval y = .int .i64 v) (h : ∀ w', w'.heap[g]? = some (.cells #[.int .i64 v] 31 (0, 0)) → But (fun k => k = g) w w' → wpListIn F n Tryz.prog ops Q rest a w') : wpListIn F n Tryz.prog ops Q (⟨none, .store 31 x y, ty, pos, after, none⟩ :: rest) a w := by
  refine wlI_skip (w' := w.setCell ⟨g, 0, none⟩ (.int .i64 v)) hF (fun c => nofun) ?_ (h _ ?_ ?_)
  · unfold execOp
    simp only [hx, hy, Instr.storeAt, Instr.sureAddr, Sem.run_bind, Sem.run_pure, Result.andThen_ok, run_st30 hg]
  · exact heap_setCell_same w g 0 _ 31 _ hg
  · exact ⟨rfl, rfl, rfl, by simp [World.setCell], fun k hk hn => Below.heap_setCell w ⟨g, 0, none⟩ _ k hn⟩
theorem wlS_box29 (hF : ∀ f, F.fn f) (H : St S w0 w L) {ad : Option Addr} {m c : Nat} (hx : a.eval x = .slice ad m c) (h : ∀ g w', St S w0 w' ((true, g, 30, #[.slice ad m c]) :: L) → w0.heap.size ≤ g → wpListIn F n Tryz.prog ops Q rest (a.put dst (.pointer (some ⟨g, 0, none⟩))) w') : wpListIn F n Tryz.prog ops Q (⟨dst, .box 30 x, ty, pos, after, none⟩ :: rest) a w := by
  have e : (execOp a.eval ⟨dst, .box 30 x, ty, pos, after, none⟩).run Tryz.prog w = .ok (.value (.pointer (some ⟨w.heap.size, 0, none⟩))) (w.alloc (.cells #[.slice ad m c] 30)) := by
    unfold execOp
    simp only [hx]
    kernel_rfl
  exact wlI_val hF (fun c => nofun) e (h _ _ (H.alloc 30 _) H.but.size)
theorem wlS_alloc30 (hF : ∀ f, F.fn f) (H : St S w0 w L) (h : ∀ g w', St S w0 w' ((true, g, 31, #[.int .i64 0]) :: L) → w0.heap.size ≤ g → wpListIn F n Tryz.prog ops Q rest (a.put dst (.pointer (some ⟨g, 0, none⟩))) w') : wpListIn F n Tryz.prog ops Q (⟨dst, .alloc 31, ty, pos, after, none⟩ :: rest) a w := by
  have e : (execOp a.eval ⟨dst, .alloc 31, ty, pos, after, none⟩).run Tryz.prog w = .ok (.value (.pointer (some ⟨w.heap.size, 0, none⟩))) (w.alloc (.cells #[.int .i64 0] 31)) := by
    unfold execOp
    kernel_rfl
  exact wlI_val hF (fun c => nofun) e (h _ _ (H.alloc 31 _) H.but.size)
theorem atI_newF {d : Nat} {ty2 : TypeId} {pos2 : String} {after2 : Array Edge} (h : wpListIn F n Tryz.prog ops Q (⟨some d, .alloc 139, ty, pos, after, none⟩ :: ⟨none, .store 139 (.tmp d) y, ty2, pos2, after2, none⟩ :: rest) a w) : wpListIn F n Tryz.prog ops Q (⟨some d, .alloc 139, ty, pos, after, none⟩ :: ⟨none, .store 139 (.tmp d) y, ty2, pos2, after2, none⟩ :: rest) a w := h
theorem wlI_newF {d : Nat} {ty2 : TypeId} {pos2 : String} {after2 : Array Edge} (hF : ∀ f, F.fn f) {f : Fm} (hd : ∀ u, (a.put (some d) u).eval (.tmp d) = u) (hy : ∀ u, (a.put (some d) u).eval y = fmV f) (h : ∀ g w', w'.heap[g]? = some (.cells (fmA f) 139 (0, 0)) → Below w.heap.size w w' → w.heap.size ≤ g → wpListIn F n Tryz.prog ops Q rest (a.put (some d) (.pointer (some ⟨g, 0, none⟩))) w') : wpListIn F n Tryz.prog ops Q (⟨some d, .alloc 139, ty, pos, after, none⟩ :: ⟨none, .store 139 (.tmp d) y, ty2, pos2, after2, none⟩ :: rest) a w := by
  have e0 : (execOp a.eval ⟨some d, .alloc 139, ty, pos, after, none⟩).run Tryz.prog w = .ok (.value (.pointer (some ⟨w.heap.size, 0, none⟩))) (w.alloc (.cells (fmA ⟨⟨#[]⟩, false, 0⟩) 139)) := by
    unfold execOp
    kernel_rfl
  refine wlI_val hF (fun c => nofun) e0 ?_
  have hg := heap_alloc_new w (.cells (fmA ⟨⟨#[]⟩, false, 0⟩) 139)
  have e : (storeVar 139 ⟨w.heap.size, 0, none⟩ (fmV f)).run Tryz.prog (w.alloc (.cells (fmA ⟨⟨#[]⟩, false, 0⟩) 139)) = .ok () ((w.alloc (.cells (fmA ⟨⟨#[]⟩, false, 0⟩) 139)).setRow w.heap.size (fmA f)) := run_storeVar_row _ _ 139 139 _ _ hg sizeF rfl (by have h2 : ∀ k n, (Value.int k n).oneCell' = true := fun _ _ => rfl; have h3 : ∀ s, (Value.string s).oneCell' = true := fun _ => rfl; have h4 : ∀ s, (Value.bool s).oneCell' = true := fun _ => rfl; simp [fmA, h2, h3, h4])
  refine wlI_skip (w' := (w.alloc (.cells (fmA ⟨⟨#[]⟩, false, 0⟩) 139)).setRow w.heap.size (fmA f)) hF (fun c => nofun) ?_ (h _ _ (setRow_heap _ _ _ _ 139 (0, 0) hg) ?_ (Nat.le_refl _))
  · unfold execOp
    simp only [hd, hy, Instr.storeAt, Instr.sureAddr, Sem.run_bind, Sem.run_pure, Result.andThen_ok, e]
  · refine ⟨rfl, rfl, rfl, by simp, fun k hk => ?_⟩
    rw [setRow_other _ _ _ _ (by omega)]
    exact Below.heap_alloc _ _ _ hk
end
/-- Between the rounds. -/
structure CkI (w0 : World) (g1 g2 : Nat) (v : Value) (e : Int) (W : World) : Prop where
  b1 : W.heap[g1]? = some (.cells #[v] 30 (0, 0))
  b2 : W.heap[g2]? = some (.cells #[.int .i64 e] 31 (0, 0))
  bel : Below w0.heap.size w0 W
theorem CkI.own {w0 : World} {g1 g2 B : Nat} {v : Value} {e : Int} {W W' : World} {row : Option Nat} (h : CkI w0 g1 g2 v e W) (hB : w0.heap.size ≤ B) (hg : W.grownBy W' row) (hr : ∀ r, row = some r → B ≤ r ∧ ∃ o : Obj, W.heap[r]? = some o ∧ o.isCells = false) : CkI w0 g1 g2 v e W' := by
  have ne : ∀ g xs t, W.heap[g]? = some (.cells xs t (0, 0)) → some g ≠ row := fun g xs t h e => by
    obtain ⟨_, o, ho, hc⟩ := hr g e.symm
    rw [h] at ho
    cases ho
    cases hc
  refine ⟨(hg.block g1 (Array.getElem?_eq_some_iff.1 h.b1).1 (ne _ _ _ h.b1)).trans h.b1, (hg.block g2 (Array.getElem?_eq_some_iff.1 h.b2).1 (ne _ _ _ h.b2)).trans h.b2, h.bel.grown hg h.bel.size (fun k e => by have := (hr k e).1; omega)⟩
theorem CkI.below {w0 : World} {g1 g2 : Nat} {v : Value} {e : Int} {W W' : World} (h : CkI w0 g1 g2 v e W) (hb : Below W.heap.size W W') : CkI w0 g1 g2 v e W' :=
  ⟨(hb.block g1 (Array.getElem?_eq_some_iff.1 h.b1).1).trans h.b1, (hb.block g2 (Array.getElem?_eq_some_iff.1 h.b2).1).trans h.b2, h.bel.trans (hb.mono h.bel.size)⟩
set_option maxHeartbeats 8000000 in
set_option maxRecDepth 100000 in
theorem chk_in (n : Nat) (hn : 3 ≤ n) (ad : Option Addr) (c : Nat) (L : List Ins) (w : World) (hL : HsI w (fun k => k < w.heap.size) ad L) :
    CallsIn Fence.wide n Tryz.prog 47 #[.slice ad L.length c] w fun e w' => e = .returned (.int .i64 (chkI L)) ∧ Below w.heap.size w w' := by
  have H := St.start Nope w
  unfold chkI
  by_cases hz : L.length = 0 ∨ 2048 < L.length
  · rw [if_pos hz]
    refine callsIn_of_wp_marks Tryz.func47 rfl trivial ?_ rfl
    simp only [Tryz.ntmps47, List.size_toArray, List.length_cons, List.length_nil, Nat.reduceAdd, Nat.reduceSub, Array.replicate_succ, Array.replicate_zero, List.push_toArray, List.append_toArray, List.nil_append, List.cons_append]
    replace hL := hide hL
    rcases hz with h0 | h0
    · rw [h0]
      gi_wp2_with (first | ((with_reducible refine atI_box 30 ?_); refine wlS_box29 wide_fn H rfl ?_; clear H; intro g1 w1 H q1) | ((with_reducible refine atI_alloc 31 ?_); refine wlS_alloc30 wide_fn H ?_; clear H; intro g2 w2 H q2; have c1 := H.cell 1 0 rfl (v := .slice ad 0 c) rfl) | ((with_reducible refine atI_store 31 ?_); refine wlI_st30 wide_fn (H.get 0 rfl) rfl rfl ?_; intro w3 hr3 B3))
      refine ⟨_, results_cell0 rfl _ _ g2 (.int .i64 110) rfl (ld30 (cell_row hr3 0 rfl)), ?_⟩
      exact ⟨rfl, H.below.trans (B3.below H.below.size (fun k h => by omega))⟩
    · have i0 : ((L.length : Int) == 0) = false := beq_eq_false_iff_ne.2 (by omega)
      have i1 : (2048 : Int) < (L.length : Int) := by omega
      gi_wp2_with (first | ((with_reducible refine atI_box 30 ?_); refine wlS_box29 wide_fn H rfl ?_; clear H; intro g1 w1 H q1) | ((with_reducible refine atI_alloc 31 ?_); refine wlS_alloc30 wide_fn H ?_; clear H; intro g2 w2 H q2; have c1 := H.cell 1 0 rfl (v := .slice ad L.length c) rfl) | ((with_reducible refine atI_store 31 ?_); refine wlI_st30 wide_fn (H.get 0 rfl) rfl rfl ?_; intro w3 hr3 B3))
      refine ⟨_, results_cell0 rfl _ _ g2 (.int .i64 110) rfl (ld30 (cell_row hr3 0 rfl)), ?_⟩
      exact ⟨rfl, H.below.trans (B3.below H.below.size (fun k h => by omega))⟩
  · rw [if_neg hz]
    generalize hres : (if (L.all fun i => fitI i L.length) = true then (0 : Int) else 110) = res
    replace hres := hide hres
    have hz1 : 0 < L.length ∧ L.length ≤ 2048 := by omega
    have i0 : ((L.length : Int) == 0) = false := beq_eq_false_iff_ne.2 (by omega)
    have i1 : ¬ ((2048 : Int) < (L.length : Int)) := by omega
    replace hz := hide hz
    replace hL := hide hL
    refine callsIn_of_wp_marks Tryz.func47 rfl trivial ?_ rfl
    simp only [Tryz.ntmps47, List.size_toArray, List.length_cons, List.length_nil, Nat.reduceAdd, Nat.reduceSub, Array.replicate_succ, Array.replicate_zero, List.push_toArray, List.append_toArray, List.nil_append, List.cons_append]
    gi_wp2_with (first | ((with_reducible refine atI_box 30 ?_); refine wlS_box29 wide_fn H rfl ?_; clear H; intro g1 w1 H q1) | ((with_reducible refine atI_alloc 31 ?_); refine wlS_alloc30 wide_fn H ?_; clear H; intro g2 w2 H q2; have c1 := H.cell 1 0 rfl (v := .slice ad L.length c) rfl))
    have hl1 := H.lti 1 rfl
    have hl2 := H.lti 0 rfl
    refine ⟨trivial, fun h => (by cases h), (formed_in _ _ _ _ _).mono ?_⟩
    rintro e w5 ⟨gB, rfl, hbB, B5, hgB⟩
    replace H := H.call B5 (Nat.le_refl _)
    have hb5 := H.below
    have hs5 := hb5.size
    have h15 := H.get 1 rfl
    have h25 := H.get 0 rfl
    have hl15 := H.lti 1 rfl
    have hl25 := H.lti 0 rfl
    have hlB := (Array.getElem?_eq_some_iff.1 hbB).1
    have hst := formed_stops (Pr := fun _ => True) w5.heap.size (fun k => k = g2) (fun k => k < w.heap.size) (n - 1) gB ad c L w5 hbB (hL.out.kept (fun k _ hl => hb5.block k hl) (fun k _ h => h)) (fun k hk => ⟨by omega, by omega⟩) (by omega) (by omega) (fun _ _ => trivial) (by omega)
    have I0 : CkI w g1 g2 (.slice ad L.length c) 0 w5 := ⟨h15, h25, hb5⟩
    have hne : Hid (g1 ≠ g2) := fun e => by have := H.nd; simp [e] at this
    clear H c1
    gi_wp2
    refine wpIn_rangeFunc_ownH rfl (by omega) (gf := 116) (lb := #[.pointer (some ⟨gB, 0, none⟩)]) rfl (wide_fn 116) (enters_of Tryz.func116 (by kernel_rfl) rfl)
      hst (fun h k => h.trans k) (fun W l o o' hl ho hc _ => ⟨by simp [World.putObj], fun k hk hlt hX => (grownBy_putObj' W l o').block k hlt (fun h => by cases h; omega)⟩) (Below.refl _ w5) (fun _ => rfl)
      (fun pre W => CkI w g1 g2 (.slice ad L.length c) 0 W ∧ ∀ x ∈ pre, fitI x.1 L.length = true)
      (fun cc pre W => cc = .ret ∧ CkI w g1 g2 (.slice ad L.length c) 110 W ∧ ∃ x ∈ pre, fitI x.1 L.length = false)
      (fun pre W W' row hs hg hr => ⟨hs.1.own hs5 hg hr, hs.2⟩)
      (fun cc pre W W' row hs hg hr => ⟨hs.1, hs.2.1.own hs5 hg hr, hs.2.2⟩)
      ⟨I0, fun x hx => (List.not_mem_nil hx).elim⟩
      (fun x a' W => ∃ g5 g6 u6 u7 u8 u10 u11 u12, a' = { tmps := #[.slice ad L.length c, .pointer (some ⟨g1, 0, none⟩), .pointer (some ⟨g2, 0, none⟩), .pointer (some ⟨g5, 0, none⟩), .pointer (some ⟨g6, 0, none⟩), .slice ad L.length c, u6, u7, u8, .slice ad L.length c, u10, u11, u12, .slice ad L.length c, .func (.func 116) #[] #[.pointer (some ⟨gB, 0, none⟩)], fmV (fm x.1.op), insV x.1, undef, undef, undef, undef, undef, undef], defers := [] } ∧ W.heap[g5]? = some (.cells (fmA (fm x.1.op)) 139 (0, 0)) ∧ W.heap[g6]? = some (.cells (insA x.1) 102 (0, 0)))
      (fun x a' _ W W' row hs hg hr => ?ax) ?assign ?body ?done ?stop
    case ax =>
      obtain ⟨g5, g6, u6, u7, u8, u10, u11, u12, e1, e2, e3⟩ := hs
      have ne : ∀ g xs t, W.heap[g]? = some (.cells xs t (0, 0)) → some g ≠ row := fun g xs t h e => by
        obtain ⟨_, o, ho, hc⟩ := hr g e.symm
        rw [h] at ho
        cases ho
        cases hc
      exact ⟨g5, g6, u6, u7, u8, u10, u11, u12, e1, (hg.block g5 (Array.getElem?_eq_some_iff.1 e2).1 (ne _ _ _ e2)).trans e2, (hg.block g6 (Array.getElem?_eq_some_iff.1 e3).1 (ne _ _ _ e3)).trans e3⟩
    case assign =>
      intro l pre x W K hi hK
      simp only [encI, List.zip_toArray, List.zip_cons_cons, List.zip_nil_left, List.zip_nil_right, List.foldl_toArray, List.foldl_cons, List.foldl_nil, List.setIfInBounds_toArray, List.set_cons_zero, List.set_cons_succ]
      replace hK := hide hK
      replace hi := hide hi
      gi_wp2_with (first | ((with_reducible refine atI_newF ?_); refine wlI_newF (f := fm x.1.op) (round_fn l) (fun _ => rfl) (fun _ => rfl) ?_; intro g5 w8 hb8 B8 hg8; replace hb8 := hide hb8; replace B8 := hide B8) | ((with_reducible refine atI_newI ?_); refine wlI_newI (i := x.1) (round_fn l) (fun _ => rfl) (fun _ => rfl) ?_; intro g6 w9 hb9 B9 hg9; replace hb9 := hide hb9; replace B9 := hide B9))
      have B89 : Below W.heap.size W w9 := B8.out.trans (B9.out.mono B8.out.size)
      have hb89 := (B9.out.block g5 (Array.getElem?_eq_some_iff.1 hb8.out).1).trans hb8.out
      exact hK.out _ w9 (but_keeps (below_but B89 (Nat.le_refl _) (fun _ => False)) (fun k h => h.elim)) (KO.below B89 (Nat.le_refl _)) ⟨hi.out.1.below B89, hi.out.2⟩ ⟨g5, g6, _, _, _, _, _, _, rfl, hb89, hb9.out⟩
    case body =>
      rintro l pre x a' W hl ⟨r, hr⟩ ⟨hi, hall⟩ ⟨g5, g6, u6, u7, u8, u10, u11, u12, rfl, e5, e6⟩ hlt
      have cN := cell_row hi.b1 0 (v := .slice ad L.length c) rfl
      have FI := hide (fitI_any x.1 L.length W)
      replace hall := hide hall
      have hiH := hide hi
      replace hr := hide hr
      replace e5 := hide e5
      replace e6 := hide e6
      clear hi
      gi_wp2_with (first | ((with_reducible refine atI_load 139 ?_); refine wlI_load 139 (round_fn l) rfl (loadF e5.out) ?_) | ((with_reducible refine atI_load 102 ?_); refine wlI_load 102 (round_fn l) rfl (loadI e6.out) ?_) | ((with_reducible refine atI_load 30 ?_); refine wlI_load 30 (round_fn l) rfl (ld29 cN) ?_))
      refine ⟨trivial, fun h => (by cases h), (callsIn_wide.2 FI.out).mono ?_⟩
      rintro e w9 ⟨rfl, B9⟩
      have hi9 := hide (hiH.out.below B9)
      cases hfit : fitI x.1 L.length with
      | true =>
        replace hfit := hide hfit
        replace B9 := hide B9
        gi_wp2
        refine ⟨but_keeps (below_but B9.out (Nat.le_refl _) (fun _ => False)) (fun k h => h.elim), KO.below B9.out (Nat.le_refl _), hi9.out, fun y hy => ?_⟩
        rcases List.mem_append.1 hy with h | h
        · exact hall.out y h
        · rw [List.mem_singleton.1 h]; exact hfit.out
      | false =>
        replace hfit := hide hfit
        replace B9 := hide B9
        gi_wp2_with (first | ((with_reducible refine atI_store 31 ?_); refine wlI_st30 (round_fn l) hi9.out.b2 rfl rfl ?_; intro w7 hn7 B7; replace hn7 := hide hn7; replace B7 := hide B7))
        have hb1 := hi9.out.b1
        have hs9 := hi9.out.bel.size
        have hl9 := (Array.getElem?_eq_some_iff.1 hb1).1
        have hl92 := (Array.getElem?_eq_some_iff.1 hi9.out.b2).1
        have BB : But (fun k => k = g2) W w7 := (below_but B9.out (Nat.le_refl _) (fun k => k = g2)).trans B7.out (fun i _ h => h)
        refine ⟨but_keeps BB (fun k h => .inl (by omega)), rfl, ⟨(B7.out.block g1 hl9 hne.out).trans hb1, hn7.out, hi9.out.bel.trans (B7.out.below hs9 (fun k h => by omega))⟩, x, by simp, hfit.out⟩
    case done =>
      rintro D xs W hD hS ⟨hI, hall⟩ hK
      have hr := hide hI.b2
      have hbe := hide hI.bel
      replace hK := hide hK
      have hall2 : res = 0 := by
        rw [← hres.out, if_pos]
        rw [List.all_eq_true]
        intro i hi
        rw [← hS] at hi
        obtain ⟨x, hx, rfl⟩ := List.mem_map.1 hi
        exact hall x hx
      have hl92 := (Array.getElem?_eq_some_iff.1 hI.b2).1
      clear hI hall hS
      gi_wp2_with (first | ((with_reducible refine atI_store 31 ?_); refine wlI_st30 wide_fn hr.out rfl rfl ?_; intro w7 hn7 B7; replace hn7 := hide hn7; replace B7 := hide B7))
      have hlD := (Array.getElem?_eq_some_iff.1 hK.out).1
      have hK7 : w7.heap[D]? = some (.deferred (some [])) := (B7.out.block D hlD (fun e => by omega)).trans hK.out
      have B77 := grownBy_putObj' w7 D (.deferred none)
      have hn9 : (w7.putObj D (.deferred none)).heap[g2]? = some (.cells #[.int .i64 0] 31 (0, 0)) := (B77.block g2 (by have := B7.out.size; omega) (fun e => by cases e; omega)).trans hn7.out
      refine ⟨by simp, .inl ⟨_, _, rfl, run_takeDeferred hK7, ?_⟩⟩
      refine ⟨_, results_cell0 rfl _ _ g2 (.int .i64 0) rfl (ld30 (cell_row hn9 0 rfl)), ?_, ?_⟩
      · rw [hall2]
      · exact (hbe.out.trans (B7.out.below (by have := hbe.out.size; omega) (fun k e => by omega))).grown B77 (by have := hbe.out.size; have := B7.out.size; omega) (fun k e => by cases e; omega)
    case stop =>
      rintro D cc pre W hD hpre ⟨rfl, hI, x, hx, hbad⟩ hK
      have hall2 : res = 110 := by
        rw [← hres.out, if_neg]
        intro h
        rw [List.all_eq_true] at h
        have := h x.1 (hpre.subset (List.mem_map.2 ⟨x, hx, rfl⟩))
        rw [hbad] at this
        cases this
      have hl92 := (Array.getElem?_eq_some_iff.1 hI.b2).1
      have hIH := hide hI
      replace hK := hide hK
      clear hI
      gi_wp2
      have B77 := grownBy_putObj' W D (.deferred none)
      have hn9 : (W.putObj D (.deferred none)).heap[g2]? = some (.cells #[.int .i64 110] 31 (0, 0)) := (B77.block g2 hl92 (fun e => by cases e; omega)).trans hIH.out.b2
      refine ⟨by simp, .inl ⟨_, _, rfl, run_takeDeferred hK.out, ?_⟩⟩
      refine ⟨_, results_cell0 rfl _ _ g2 (.int .i64 110) rfl (ld30 (cell_row hn9 0 rfl)), ?_, ?_⟩
      · rw [hall2]
      · exact hIH.out.bel.grown B77 hIH.out.bel.size (fun k e => by cases e; omega)
theorem chk_any (ad : Option Addr) (c : Nat) (L : List Ins) (w : World) (hL : HsI w (fun k => k < w.heap.size) ad L) : Calls Tryz.prog 47 #[.slice ad L.length c] w fun e w' => e = .returned (.int .i64 (chkI L)) ∧ Below w.heap.size w w' := callsIn_wide.1 (chk_in 5 (by omega) ad c L w hL)
end Go.Proofs.YtkfdikpnnkbgaaaGreatDoor
