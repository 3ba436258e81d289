/-
  Accepts.
-/
import Derived.Test.YtkfdikpnnkbgaaaGreatDoorSM
namespace Go.Proofs.YtkfdikpnnkbgaaaGreatDoor
open Go.RowKit Go.Shelf
set_option linter.unusedVariables false
set_option linter.unusedSimpArgs false
attribute [local go_sem] Oper.semAt_some

def endAt (L : List Ins) (i : Nat) : Bool := match L[i]? with
  | some q => q.op == 3
  | none => false
/-- Does a program that stands at W accept? -/
def accB (L : List Ins) (W : List Nat) : Bool := (mems W).any (endAt L)
theorem accB_iff {L : List Ins} {W : List Nat} (hW : OkW W) : accB L W = true ↔ accS L (snW W) := by
  unfold accB
  rw [List.any_eq_true]
  constructor
  · rintro ⟨i, hi, he⟩
    unfold endAt at he
    cases hq : L[i]? with
    | none => rw [hq] at he; cases he
    | some q => rw [hq] at he; exact ⟨i, q, (mem_mems hW i).1 hi, hq, by simpa using he⟩
  · rintro ⟨i, q, h1, h2, h3⟩
    exact ⟨i, (mem_mems hW i).2 h1, by unfold endAt; rw [h2]; simpa using h3⟩
theorem ld65 {w : World} {ad : Addr} {v : Value} (h : w.cell? ad = some v) : (loadVar 50 ad).run Tryz.prog w = .ok v w := by
  have ha : ∀ w, (isAgg 50).run Tryz.prog w = .ok false w := fun w => by kernel_rfl
  simp [loadVar, ha, go_sem, h]
theorem ld4b {w : World} {ad : Addr} {v : Value} (h : w.cell? ad = some v) : (loadVar 4 ad).run Tryz.prog w = .ok v w := by
  have ha : ∀ w, (isAgg 4).run Tryz.prog w = .ok false w := fun w => by kernel_rfl
  simp [loadVar, ha, go_sem, h]
theorem run_st4 {w : World} {g : Nat} {u : Value} {v : Bool} (h : w.heap[g]? = some (.cells #[u] 4 (0, 0))) : (storeVar 4 ⟨g, 0, none⟩ (.bool v)).run Tryz.prog w = .ok () (w.setCell ⟨g, 0, none⟩ (.bool v)) := by
  have hc := cell_row h 0 (v := u) rfl
  have hf := frozen_of_row w g 0 _ 4 h
  have e : (storeCells ⟨g, 0, none⟩ [.bool v]).run Tryz.prog w = .ok () (w.setCell ⟨g, 0, none⟩ (.bool v)) := by simp [storeCells, go_sem, stored, hc, hf]
  have o4 : ∀ w, (sizeOf 4).run Tryz.prog w = .ok 1 w := fun w => by kernel_rfl
  have e4 : (Value.bool v).cells = #[.bool v] := rfl
  unfold storeVar
  simp only [Sem.run_bind, o4, Result.andThen_ok, e4]
  simpa using e
section
variable {S : Nat → Prop} {w0 : World} {L : List Ent} {F : Fence} {n : Nat} {w w' : World} {ops : Array Oper} {rest : List Oper} {a : Act} {Q : Exit → Act → World → Prop} {dst : Option Nat} {x y : Operand} {ty : TypeId} {pos : String} {after : Array Edge}
theorem wlI_st4 (hF : ∀ f, F.fn f) {g : Nat} {u : Value} {v : Bool} (hg : w.heap[g]? = some (.cells #[u] 4 (0, 0))) (hx : a.eval x = .pointer (some ⟨g, 0, none⟩)) (hy : a.eval y = .bool v) (h : ∀ w', w'.heap[g]? = some (.cells #[.bool v] 4 (0, 0)) → But (fun k => k = g) w w' → wpListIn F n Tryz.prog ops Q rest a w') : wpListIn F n Tryz.prog ops Q (⟨none, .store 4 x y, ty, pos, after, none⟩ :: rest) a w := by
  refine wlI_skip (w' := w.setCell ⟨g, 0, none⟩ (.bool v)) hF (fun c => nofun) ?_ (h _ ?_ ?_)
  · unfold execOp
    simp only [hx, hy, Instr.storeAt, Instr.sureAddr, Sem.run_bind, Sem.run_pure, Result.andThen_ok, run_st4 hg]
  · exact heap_setCell_same w g 0 _ 4 _ hg
  · exact ⟨rfl, rfl, rfl, by simp [World.setCell], fun k hk hn => Below.heap_setCell w ⟨g, 0, none⟩ _ k hn⟩
theorem wlS_box65 (hF : ∀ f, F.fn f) (H : St S w0 w L) {ad : Addr} (hx : a.eval x = .pointer (some ad)) (h : ∀ g w', St S w0 w' ((true, g, 50, #[.pointer (some ad)]) :: L) → w0.heap.size ≤ g → wpListIn F n Tryz.prog ops Q rest (a.put dst (.pointer (some ⟨g, 0, none⟩))) w') : wpListIn F n Tryz.prog ops Q (⟨dst, .box 50 x, ty, pos, after, none⟩ :: rest) a w := by
  have e : (execOp a.eval ⟨dst, .box 50 x, ty, pos, after, none⟩).run Tryz.prog w = .ok (.value (.pointer (some ⟨w.heap.size, 0, none⟩))) (w.alloc (.cells #[.pointer (some ad)] 50)) := by
    unfold execOp
    simp only [hx]
    kernel_rfl
  exact wlI_val hF (fun c => nofun) e (h _ _ (H.alloc 50 _) H.but.size)
theorem wlS_alloc4 (hF : ∀ f, F.fn f) (H : St S w0 w L) (h : ∀ g w', St S w0 w' ((true, g, 4, #[.bool false]) :: L) → w0.heap.size ≤ g → wpListIn F n Tryz.prog ops Q rest (a.put dst (.pointer (some ⟨g, 0, none⟩))) w') : wpListIn F n Tryz.prog ops Q (⟨dst, .alloc 4, ty, pos, after, none⟩ :: rest) a w := by
  have e : (execOp a.eval ⟨dst, .alloc 4, ty, pos, after, none⟩).run Tryz.prog w = .ok (.value (.pointer (some ⟨w.heap.size, 0, none⟩))) (w.alloc (.cells #[.bool false] 4)) := by
    unfold execOp
    kernel_rfl
  exact wlI_val hF (fun c => nofun) e (h _ _ (H.alloc 4 _) H.but.size)
end
structure AcI (w0 : World) (g1 g2 : Nat) (v : Value) (e : Bool) (W : World) : Prop where
  b1 : W.heap[g1]? = some (.cells #[v] 50 (0, 0))
  b2 : W.heap[g2]? = some (.cells #[.bool e] 4 (0, 0))
  bel : Below w0.heap.size w0 W
theorem AcI.own {w0 : World} {g1 g2 B : Nat} {v : Value} {e : Bool} {W W' : World} {row : Option Nat} (h : AcI w0 g1 g2 v e W) (hB : w0.heap.size ≤ B) (hg : W.grownBy W' row) (hr : ∀ r, row = some r → B ≤ r ∧ ∃ o : Obj, W.heap[r]? = some o ∧ o.isCells = false) : AcI w0 g1 g2 v e W' := by
  have ne : ∀ g xs t, W.heap[g]? = some (.cells xs t (0, 0)) → some g ≠ row := fun g xs t h e => by
    obtain ⟨_, o, ho, hc⟩ := hr g e.symm
    rw [h] at ho
    cases ho
    cases hc
  refine ⟨(hg.block g1 (Array.getElem?_eq_some_iff.1 h.b1).1 (ne _ _ _ h.b1)).trans h.b1, (hg.block g2 (Array.getElem?_eq_some_iff.1 h.b2).1 (ne _ _ _ h.b2)).trans h.b2, h.bel.grown hg h.bel.size (fun k e => by have := (hr k e).1; omega)⟩
theorem AcI.below {w0 : World} {g1 g2 : Nat} {v : Value} {e : Bool} {W W' : World} (h : AcI w0 g1 g2 v e W) (hb : Below W.heap.size W W') : AcI w0 g1 g2 v e W' :=
  ⟨(hb.block g1 (Array.getElem?_eq_some_iff.1 h.b1).1).trans h.b1, (hb.block g2 (Array.getElem?_eq_some_iff.1 h.b2).1).trans h.b2, h.bel.trans (hb.mono h.bel.size)⟩
set_option maxHeartbeats 8000000 in
set_option maxRecDepth 100000 in
theorem acc_in (n : Nat) (hn : 3 ≤ n) (g : Nat) (ad : Option Addr) (c : Nat) (L : List Ins) (W : List Nat) (hW : OkW W) (w : World) (hR : Rn w g ad L.length c W) (hL : HsI w (fun k => k < w.heap.size) ad L) (hin : ∀ i, inW W i = true → i < L.length) (hT : Tab w) (h0 : 0 < L.length) :
    CallsIn Fence.wide n Tryz.prog 22 #[.pointer (some ⟨g, 0, none⟩)] w fun e w' => e = .returned (.bool (accB L W)) ∧ Below w.heap.size w w' := by
  have H := St.start Nope w
  have lg := hR.lt
  unfold accB
  generalize hres : (mems W).any (endAt L) = res
  replace hres := hide hres
  replace hL := hide hL
  replace hR := hide hR
  replace hin := hide hin
  replace hW := hide hW
  replace hT := hide hT
  refine callsIn_of_wp_marks Tryz.func22 rfl trivial ?_ rfl
  simp only [Tryz.ntmps22, List.size_toArray, List.length_cons, List.length_nil, Nat.reduceAdd, Nat.reduceSub, Array.replicate_succ, Array.replicate_zero, List.push_toArray, List.append_toArray, List.nil_append, List.cons_append]
  gi_wp2_with (first | ((with_reducible refine atI_box 50 ?_); refine wlS_box65 wide_fn H rfl ?_; clear H; intro g1 w1 H q1) | ((with_reducible refine atI_alloc 4 ?_); refine wlS_alloc4 wide_fn H ?_; clear H; intro g2 w2 H q2; have c1 := H.cell 1 0 rfl (v := .pointer (some ⟨g, 0, none⟩)) rfl; have hb2 := hide H.below) | ((with_reducible refine atI_load 50 ?_); refine wlI_load 50 wide_fn rfl (ld65 c1) ?_))
  have R2 : Rn w2 g ad L.length c W := hR.out.kept (hb2.out.block g lg)
  refine ⟨trivial, fun h => (by cases h), (callsIn_wide.2 (isMade_any g ad L.length c h0 w2 R2.l)).mono ?_⟩
  rintro e w3 ⟨rfl, rfl⟩
  gi_wp2_with (first | ((with_reducible refine atI_load 50 ?_); refine wlI_load 50 wide_fn rfl (ld65 c1) ?_))
  have hl1 := H.lti 1 rfl
  have hl2 := H.lti 0 rfl
  refine ⟨trivial, fun h => (by cases h), (all_in _ _ _).mono ?_⟩
  rintro e w5 ⟨gB, rfl, hbB, B5, hgB⟩
  replace H := H.call B5 (Nat.le_refl _)
  have hb5 := H.below
  have hs5 := hb5.size
  have hs35 := B5.size
  have h15 := H.get 1 rfl
  have h25 := H.get 0 rfl
  have R5 : Rn w5 g ad L.length c W := hR.out.kept (hb5.block g lg)
  have hst := all_stops (Pr := fun i => i < L.length) 1 (fun _ => False) (n - 1) gB g #[.slice ad L.length c] 111 W hW.out w5 hbB R5 (hT.out.below hb5) (by decide) (fun h => h) (fun i hi => hin.out i ((mem_mems hW.out i).1 hi))
  have I0 : AcI w g1 g2 (.pointer (some ⟨g, 0, none⟩)) false w5 := ⟨h15, h25, hb5⟩
  have hne : Hid (g1 ≠ g2) := fun e => by have := H.nd; simp [e] at this
  clear H c1 R2
  gi_wp2
  refine wpIn_rangeFunc_ownH rfl (by omega) (gf := 82) (lb := #[.pointer (some ⟨gB, 0, none⟩)]) rfl (wide_fn 82) (enters_of Tryz.func82 (by kernel_rfl) rfl)
    hst (fun h k => h.trans k) (fun Wd l o o' hl ho hc _ => ⟨by simp [World.putObj], fun k hk hlt hX => (grownBy_putObj' Wd l o').block k hlt (fun h => by cases h; omega)⟩) (Below.refl _ w5) (fun _ => rfl)
    (fun pr Wd => AcI w g1 g2 (.pointer (some ⟨g, 0, none⟩)) false Wd ∧ ∀ x ∈ pr, endAt L x.1 = false)
    (fun cc pr Wd => cc = .ret ∧ AcI w g1 g2 (.pointer (some ⟨g, 0, none⟩)) true Wd ∧ ∃ x ∈ pr, endAt L x.1 = true)
    (fun pr Wd Wd' row hs hg hr => ⟨hs.1.own hs5 hg hr, hs.2⟩)
    (fun cc pr Wd Wd' row hs hg hr => ⟨hs.1, hs.2.1.own hs5 hg hr, hs.2.2⟩)
    ⟨I0, fun x hx => (List.not_mem_nil hx).elim⟩
    (fun x a' Wd => ∃ u0 u4 u5 u6 u7 u8 u9 u10 u11 u12 u13 u14 u15 u16 u17 u18 u19 u20 : Value, a' = { tmps := #[u0, .pointer (some ⟨g1, 0, none⟩), .pointer (some ⟨g2, 0, none⟩), .int .i64 (x.1 : Int), u4, u5, u6, u7, u8, u9, u10, u11, u12, u13, u14, u15, u16, u17, u18, u19, u20], defers := [] })
    (fun x a' _ Wd Wd' row hs hg hr => hs) ?assign ?body ?done ?stop
  case assign =>
    intro l pr x Wd K hi hK
    simp only [encN, List.zip_toArray, List.zip_cons_cons, List.zip_nil_left, List.zip_nil_right, List.foldl_toArray, List.foldl_cons, List.foldl_nil, List.setIfInBounds_toArray, List.set_cons_zero, List.set_cons_succ]
    replace hK := hide hK
    replace hi := hide hi
    gi_wp2
    exact hK.out _ Wd ⟨Nat.le_refl _, fun _ _ _ h _ => h⟩ (KO.refl _ _ _) hi.out ⟨_, _, _, _, _, _, _, _, _, _, _, _, _, _, _, _, _, _, rfl⟩
  case body =>
    rintro l pr ⟨i, hil⟩ a' Wd hl ⟨r, hr⟩ ⟨hi, hall⟩ ⟨u0, u4, u5, u6, u7, u8, u9, u10, u11, u12, u13, u14, u15, u16, u17, u18, u19, u20, rfl⟩ hlt
    obtain ⟨q, hq⟩ : ∃ q, L[i]? = some q := ⟨_, List.getElem?_eq_getElem hil⟩
    have c1 := cell_row hi.b1 0 (v := .pointer (some ⟨g, 0, none⟩)) rfl
    have Rd : Rn Wd g ad L.length c W := hR.out.kept (hi.bel.block g lg)
    have cl := Rd.l
    obtain ⟨bb, off, cur, tt, fr, rfl, hbl, hcb, hcc⟩ : ∃ b off cur t fr, ad = some ⟨b, off, none⟩ ∧ b < w.heap.size ∧ w.heap[b]? = some (.cells cur t fr) ∧ ∀ k i, L[k]? = some i → ∀ j u, (insA i)[j]? = some u → cur[off + k * 7 + j]? = some u := by
      rcases hL.out with h | h
      · rw [h] at hq; simp at hq
      · exact h
    have co : Wd.cell? ⟨bb, off + i * 7, none⟩ = some (.int .i64 q.op) := by
      rw [cell_of_row Wd bb _ _ tt fr ((hi.bel.block bb hbl).trans hcb)]
      exact hcc i q hq 0 _ rfl
    have he : endAt L i = (q.op == 3) := by unfold endAt; rw [hq]
    have i1 : (i : Int) < (L.length : Int) := by omega
    have hb2 := hi.b2
    have hs9 := hi.bel.size
    have hl9 := (Array.getElem?_eq_some_iff.1 hi.b1).1
    have hl92 := (Array.getElem?_eq_some_iff.1 hi.b2).1
    replace hall := hide hall
    have hiH := hide hi
    replace hr := hide hr
    replace hq := hide hq
    replace hcb := hide hcb
    replace hcc := hide hcc
    replace Rd := hide Rd
    replace hb2 := hide hb2
    clear hi
    by_cases hop : q.op = 3
    · have i2 : (q.op == 3) = true := by simpa using hop
      rw [i2] at he
      rw [hop] at co
      replace he := hide he
      clear i2 hop
      gi_wp2_with (first | ((with_reducible refine atI_load 50 ?_); refine wlI_load 50 (round_fn l) rfl (ld65 c1) ?_) | ((with_reducible refine atI_load 30 ?_); refine wlI_load 30 (round_fn l) rfl (ld29 cl) ?_) | ((with_reducible refine atI_load 3 ?_); refine wlI_load 3 (round_fn l) rfl (ld3 co) ?_) | ((with_reducible refine atI_store 4 ?_); refine wlI_st4 (round_fn l) hb2.out rfl rfl ?_; intro w7 hn7 B7; replace hn7 := hide hn7; replace B7 := hide B7))
      refine ⟨but_keeps (by exact B7.out) (fun k h => .inl (by omega)), rfl, ⟨(B7.out.block g1 hl9 hne.out).trans hiH.out.b1, hn7.out, hiH.out.bel.trans (B7.out.below hs9 (fun k h => by omega))⟩, ⟨i, hil⟩, by simp, he.out⟩
    · have i2 : (q.op == 3) = false := by simpa using hop
      rw [i2] at he
      replace he := hide he
      replace hop := hide hop
      gi_wp2_with (first | ((with_reducible refine atI_load 50 ?_); refine wlI_load 50 (round_fn l) rfl (ld65 c1) ?_) | ((with_reducible refine atI_load 30 ?_); refine wlI_load 30 (round_fn l) rfl (ld29 cl) ?_) | ((with_reducible refine atI_load 3 ?_); refine wlI_load 3 (round_fn l) rfl (ld3 co) ?_))
      refine ⟨⟨Nat.le_refl _, fun _ _ _ h _ => h⟩, KO.refl _ _ _, hiH.out, fun y hy => ?_⟩
      rcases List.mem_append.1 hy with h | h
      · exact hall.out y h
      · rw [List.mem_singleton.1 h]; exact he.out
  case done =>
    rintro D xs Wd hD hS ⟨hI, hall⟩ hK
    have hr := hide hI.b2
    have hbe := hide hI.bel
    replace hK := hide hK
    have hall2 : res = false := by
      rw [← hres.out, ← hS]
      rw [List.any_eq_false]
      intro i hi
      obtain ⟨x, hx, rfl⟩ := List.mem_map.1 hi
      rw [hall x hx]
      simp
    have hl92 := (Array.getElem?_eq_some_iff.1 hI.b2).1
    clear hI hall hS
    gi_wp2_with (first | ((with_reducible refine atI_store 4 ?_); refine wlI_st4 wide_fn hr.out rfl rfl ?_; intro w7 hn7 B7; replace hn7 := hide hn7; replace B7 := hide B7))
    have hlD := (Array.getElem?_eq_some_iff.1 hK.out).1
    have hK7 : w7.heap[D]? = some (.deferred (some [])) := (B7.out.block D hlD (fun e => by omega)).trans hK.out
    have B77 := grownBy_putObj' w7 D (.deferred none)
    have hn9 : (w7.putObj D (.deferred none)).heap[g2]? = some (.cells #[.bool false] 4 (0, 0)) := (B77.block g2 (by have := B7.out.size; omega) (fun e => by cases e; omega)).trans hn7.out
    refine ⟨by simp, .inl ⟨_, _, rfl, run_takeDeferred hK7, ?_⟩⟩
    refine ⟨_, results_cell0 rfl _ _ g2 (.bool false) rfl (ld4b (cell_row hn9 0 rfl)), ?_, ?_⟩
    · rw [hall2]
    · exact (hbe.out.trans (B7.out.below (by have := hbe.out.size; omega) (fun k e => by omega))).grown B77 (by have := hbe.out.size; have := B7.out.size; omega) (fun k e => by cases e; omega)
  case stop =>
    rintro D cc pr Wd hD hpre ⟨rfl, hI, x, hx, hbad⟩ hK
    have hall2 : res = true := by
      rw [← hres.out, List.any_eq_true]
      exact ⟨x.1, hpre.subset (List.mem_map.2 ⟨x, hx, rfl⟩), hbad⟩
    have hl92 := (Array.getElem?_eq_some_iff.1 hI.b2).1
    have hIH := hide hI
    replace hK := hide hK
    clear hI
    gi_wp2
    have B77 := grownBy_putObj' Wd D (.deferred none)
    have hn9 : (Wd.putObj D (.deferred none)).heap[g2]? = some (.cells #[.bool true] 4 (0, 0)) := (B77.block g2 hl92 (fun e => by cases e; omega)).trans hIH.out.b2
    refine ⟨by simp, .inl ⟨_, _, rfl, run_takeDeferred hK.out, ?_⟩⟩
    refine ⟨_, results_cell0 rfl _ _ g2 (.bool true) rfl (ld4b (cell_row hn9 0 rfl)), ?_, ?_⟩
    · rw [hall2]
    · exact hIH.out.bel.grown B77 hIH.out.bel.size (fun k e => by cases e; omega)
end Go.Proofs.YtkfdikpnnkbgaaaGreatDoor
