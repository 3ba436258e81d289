/-
  Accepts. Feed. Match. A range over an iterator that turns a block of its own; slices.Collect of numbers. ends, and its iterator; Ends.
-/
import Derived.Test.YthgdfgkjaepchaaDoorKS
import Derived.Maps.AppendAt
namespace Go.Proofs.YthgdfgkjaepchaaDoor
open Go.RowKit Go.Shelf
set_option linter.unusedVariables false
set_option linter.unusedSimpArgs false
attribute [local go_sem] Oper.semAt_some

def endAt (L : List Ins) (i : Nat) : Bool := match L[i]? with
  | some q => q.op == 3
  | none => false
/-- Does a program that stands at W accept? -/
def accB (L : List Ins) (W : List Nat) : Bool := (mems W).any (endAt L)
theorem accB_iff {L : List Ins} {W : List Nat} (hW : OkW W) : accB L W = true ↔ accS L (snW W) := by
  unfold accB
  rw [List.any_eq_true]
  constructor
  · rintro ⟨i, hi, he⟩
    unfold endAt at he
    cases hq : L[i]? with
    | none => rw [hq] at he; cases he
    | some q => rw [hq] at he; exact ⟨i, q, (mem_mems hW i).1 hi, hq, by simpa using he⟩
  · rintro ⟨i, q, h1, h2, h3⟩
    exact ⟨i, (mem_mems hW i).2 h1, by unfold endAt; rw [h2]; simpa using h3⟩
theorem ld65 {w : World} {ad : Addr} {v : Value} (h : w.cell? ad = some v) : (loadVar 65 ad).run Tryd.prog w = .ok v w := by
  have ha : ∀ w, (isAgg 65).run Tryd.prog w = .ok false w := fun w => by kernel_rfl
  simp [loadVar, ha, go_sem, h]
theorem ld4b {w : World} {ad : Addr} {v : Value} (h : w.cell? ad = some v) : (loadVar 4 ad).run Tryd.prog w = .ok v w := by
  have ha : ∀ w, (isAgg 4).run Tryd.prog w = .ok false w := fun w => by kernel_rfl
  simp [loadVar, ha, go_sem, h]
theorem run_st4 {w : World} {g : Nat} {u : Value} {v : Bool} (h : w.heap[g]? = some (.cells #[u] 4 (0, 0))) : (storeVar 4 ⟨g, 0, none⟩ (.bool v)).run Tryd.prog w = .ok () (w.setCell ⟨g, 0, none⟩ (.bool v)) := by
  have hc := cell_row h 0 (v := u) rfl
  have hf := frozen_of_row w g 0 _ 4 h
  have e : (storeCells ⟨g, 0, none⟩ [.bool v]).run Tryd.prog w = .ok () (w.setCell ⟨g, 0, none⟩ (.bool v)) := by simp [storeCells, go_sem, stored, hc, hf]
  have o4 : ∀ w, (sizeOf 4).run Tryd.prog w = .ok 1 w := fun w => by kernel_rfl
  have e4 : (Value.bool v).cells = #[.bool v] := rfl
  unfold storeVar
  simp only [Sem.run_bind, o4, Result.andThen_ok, e4]
  simpa using e
section
variable {S : Nat → Prop} {w0 : World} {L : List Ent} {F : Fence} {n : Nat} {w w' : World} {ops : Array Oper} {rest : List Oper} {a : Act} {Q : Exit → Act → World → Prop} {dst : Option Nat} {x y : Operand} {ty : TypeId} {pos : String} {after : Array Edge}
theorem wlI_st4 (hF : ∀ f, F.fn f) {g : Nat} {u : Value} {v : Bool} (hg : w.heap[g]? = some (.cells #[u] 4 (0, 0))) (hx : a.eval x = .pointer (some ⟨g, 0, none⟩)) (hy : a.eval y = .bool v) (h : ∀ w', w'.heap[g]? = some (.cells #[.bool v] 4 (0, 0)) → But (fun k => k = g) w w' → wpListIn F n Tryd.prog ops Q rest a w') : wpListIn F n Tryd.prog ops Q (⟨none, .store 4 x y, ty, pos, after, none⟩ :: rest) a w := by
  refine wlI_skip (w' := w.setCell ⟨g, 0, none⟩ (.bool v)) hF (fun c => nofun) ?_ (h _ ?_ ?_)
  · unfold execOp
    simp only [hx, hy, Instr.storeAt, Instr.sureAddr, Sem.run_bind, Sem.run_pure, Result.andThen_ok, run_st4 hg]
  · exact heap_setCell_same w g 0 _ 4 _ hg
  · exact ⟨rfl, rfl, rfl, by simp [World.setCell], fun k hk hn => Below.heap_setCell w ⟨g, 0, none⟩ _ k hn⟩
theorem wlS_box65 (hF : ∀ f, F.fn f) (H : St S w0 w L) {ad : Addr} (hx : a.eval x = .pointer (some ad)) (h : ∀ g w', St S w0 w' ((true, g, 65, #[.pointer (some ad)]) :: L) → w0.heap.size ≤ g → wpListIn F n Tryd.prog ops Q rest (a.put dst (.pointer (some ⟨g, 0, none⟩))) w') : wpListIn F n Tryd.prog ops Q (⟨dst, .box 65 x, ty, pos, after, none⟩ :: rest) a w := by
  have e : (execOp a.eval ⟨dst, .box 65 x, ty, pos, after, none⟩).run Tryd.prog w = .ok (.value (.pointer (some ⟨w.heap.size, 0, none⟩))) (w.alloc (.cells #[.pointer (some ad)] 65)) := by
    unfold execOp
    simp only [hx]
    kernel_rfl
  exact wlI_val hF (fun c => nofun) e (h _ _ (H.alloc 65 _) H.but.size)
theorem wlS_alloc4 (hF : ∀ f, F.fn f) (H : St S w0 w L) (h : ∀ g w', St S w0 w' ((true, g, 4, #[.bool false]) :: L) → w0.heap.size ≤ g → wpListIn F n Tryd.prog ops Q rest (a.put dst (.pointer (some ⟨g, 0, none⟩))) w') : wpListIn F n Tryd.prog ops Q (⟨dst, .alloc 4, ty, pos, after, none⟩ :: rest) a w := by
  have e : (execOp a.eval ⟨dst, .alloc 4, ty, pos, after, none⟩).run Tryd.prog w = .ok (.value (.pointer (some ⟨w.heap.size, 0, none⟩))) (w.alloc (.cells #[.bool false] 4)) := by
    unfold execOp
    kernel_rfl
  exact wlI_val hF (fun c => nofun) e (h _ _ (H.alloc 4 _) H.but.size)
end
structure AcI (w0 : World) (g1 g2 : Nat) (v : Value) (e : Bool) (W : World) : Prop where
  b1 : W.heap[g1]? = some (.cells #[v] 65 (0, 0))
  b2 : W.heap[g2]? = some (.cells #[.bool e] 4 (0, 0))
  bel : Below w0.heap.size w0 W
theorem AcI.own {w0 : World} {g1 g2 B : Nat} {v : Value} {e : Bool} {W W' : World} {row : Option Nat} (h : AcI w0 g1 g2 v e W) (hB : w0.heap.size ≤ B) (hg : W.grownBy W' row) (hr : ∀ r, row = some r → B ≤ r ∧ ∃ o : Obj, W.heap[r]? = some o ∧ o.isCells = false) : AcI w0 g1 g2 v e W' := by
  have ne : ∀ g xs t, W.heap[g]? = some (.cells xs t (0, 0)) → some g ≠ row := fun g xs t h e => by
    obtain ⟨_, o, ho, hc⟩ := hr g e.symm
    rw [h] at ho
    cases ho
    cases hc
  refine ⟨(hg.block g1 (Array.getElem?_eq_some_iff.1 h.b1).1 (ne _ _ _ h.b1)).trans h.b1, (hg.block g2 (Array.getElem?_eq_some_iff.1 h.b2).1 (ne _ _ _ h.b2)).trans h.b2, h.bel.grown hg h.bel.size (fun k e => by have := (hr k e).1; omega)⟩
theorem AcI.below {w0 : World} {g1 g2 : Nat} {v : Value} {e : Bool} {W W' : World} (h : AcI w0 g1 g2 v e W) (hb : Below W.heap.size W W') : AcI w0 g1 g2 v e W' :=
  ⟨(hb.block g1 (Array.getElem?_eq_some_iff.1 h.b1).1).trans h.b1, (hb.block g2 (Array.getElem?_eq_some_iff.1 h.b2).1).trans h.b2, h.bel.trans (hb.mono h.bel.size)⟩
set_option maxHeartbeats 8000000 in
set_option maxRecDepth 100000 in
theorem acc_in (n : Nat) (hn : 3 ≤ n) (g : Nat) (ad : Option Addr) (c : Nat) (L : List Ins) (W : List Nat) (hW : OkW W) (w : World) (hR : Rn w g ad L.length c W) (hL : HsI w (fun k => k < w.heap.size) ad L) (hin : ∀ i, inW W i = true → i < L.length) (hT : Tab w) (h0 : 0 < L.length) :
    CallsIn Fence.wide n Tryd.prog 33 #[.pointer (some ⟨g, 0, none⟩)] w fun e w' => e = .returned (.bool (accB L W)) ∧ Below w.heap.size w w' := by
  have H := St.start Nope w
  have lg := hR.lt
  unfold accB
  generalize hres : (mems W).any (endAt L) = res
  replace hres := hide hres
  replace hL := hide hL
  replace hR := hide hR
  replace hin := hide hin
  replace hW := hide hW
  replace hT := hide hT
  refine callsIn_of_wp_marks Tryd.func33 rfl trivial ?_ rfl
  simp only [Tryd.ntmps33, List.size_toArray, List.length_cons, List.length_nil, Nat.reduceAdd, Nat.reduceSub, Array.replicate_succ, Array.replicate_zero, List.push_toArray, List.append_toArray, List.nil_append, List.cons_append]
  gi_wp2_with (first | ((with_reducible refine atI_box 65 ?_); refine wlS_box65 wide_fn H rfl ?_; clear H; intro g1 w1 H q1) | ((with_reducible refine atI_alloc 4 ?_); refine wlS_alloc4 wide_fn H ?_; clear H; intro g2 w2 H q2; have c1 := H.cell 1 0 rfl (v := .pointer (some ⟨g, 0, none⟩)) rfl; have hb2 := hide H.below) | ((with_reducible refine atI_load 65 ?_); refine wlI_load 65 wide_fn rfl (ld65 c1) ?_))
  have R2 : Rn w2 g ad L.length c W := hR.out.kept (hb2.out.block g lg)
  refine ⟨trivial, fun h => (by cases h), (callsIn_wide.2 (isMade_any g ad L.length c h0 w2 R2.l)).mono ?_⟩
  rintro e w3 ⟨rfl, rfl⟩
  gi_wp2_with (first | ((with_reducible refine atI_load 65 ?_); refine wlI_load 65 wide_fn rfl (ld65 c1) ?_))
  have hl1 := H.lti 1 rfl
  have hl2 := H.lti 0 rfl
  refine ⟨trivial, fun h => (by cases h), (all_in _ _ _).mono ?_⟩
  rintro e w5 ⟨gB, rfl, hbB, B5, hgB⟩
  replace H := H.call B5 (Nat.le_refl _)
  have hb5 := H.below
  have hs5 := hb5.size
  have hs35 := B5.size
  have h15 := H.get 1 rfl
  have h25 := H.get 0 rfl
  have R5 : Rn w5 g ad L.length c W := hR.out.kept (hb5.block g lg)
  have hst := all_stops (Pr := fun i => i < L.length) 1 (fun _ => False) (n - 1) gB g #[.slice ad L.length c] 103 W hW.out w5 hbB R5 (hT.out.below hb5) (by decide) (fun h => h) (fun i hi => hin.out i ((mem_mems hW.out i).1 hi))
  have I0 : AcI w g1 g2 (.pointer (some ⟨g, 0, none⟩)) false w5 := ⟨h15, h25, hb5⟩
  have hne : Hid (g1 ≠ g2) := fun e => by have := H.nd; simp [e] at this
  clear H c1 R2
  gi_wp2
  refine wpIn_rangeFunc_ownH rfl (by omega) (gf := 88) (lb := #[.pointer (some ⟨gB, 0, none⟩)]) rfl (wide_fn 88) (enters_of Tryd.func88 (by kernel_rfl) rfl)
    hst (fun h k => h.trans k) (fun Wd l o o' hl ho hc _ => ⟨by simp [World.putObj], fun k hk hlt hX => (grownBy_putObj' Wd l o').block k hlt (fun h => by cases h; omega)⟩) (Below.refl _ w5) (fun _ => rfl)
    (fun pr Wd => AcI w g1 g2 (.pointer (some ⟨g, 0, none⟩)) false Wd ∧ ∀ x ∈ pr, endAt L x.1 = false)
    (fun cc pr Wd => cc = .ret ∧ AcI w g1 g2 (.pointer (some ⟨g, 0, none⟩)) true Wd ∧ ∃ x ∈ pr, endAt L x.1 = true)
    (fun pr Wd Wd' row hs hg hr => ⟨hs.1.own hs5 hg hr, hs.2⟩)
    (fun cc pr Wd Wd' row hs hg hr => ⟨hs.1, hs.2.1.own hs5 hg hr, hs.2.2⟩)
    ⟨I0, fun x hx => (List.not_mem_nil hx).elim⟩
    (fun x a' Wd => ∃ u0 u4 u5 u6 u7 u8 u9 u10 u11 u12 u13 u14 u15 u16 u17 u18 u19 u20 : Value, a' = { tmps := #[u0, .pointer (some ⟨g1, 0, none⟩), .pointer (some ⟨g2, 0, none⟩), .int .i64 (x.1 : Int), u4, u5, u6, u7, u8, u9, u10, u11, u12, u13, u14, u15, u16, u17, u18, u19, u20], defers := [] })
    (fun x a' _ Wd Wd' row hs hg hr => hs) ?assign ?body ?done ?stop
  case assign =>
    intro l pr x Wd K hi hK
    simp only [encN, List.zip_toArray, List.zip_cons_cons, List.zip_nil_left, List.zip_nil_right, List.foldl_toArray, List.foldl_cons, List.foldl_nil, List.setIfInBounds_toArray, List.set_cons_zero, List.set_cons_succ]
    replace hK := hide hK
    replace hi := hide hi
    gi_wp2
    exact hK.out _ Wd ⟨Nat.le_refl _, fun _ _ _ h _ => h⟩ (KO.refl _ _ _) hi.out ⟨_, _, _, _, _, _, _, _, _, _, _, _, _, _, _, _, _, _, rfl⟩
  case body =>
    rintro l pr ⟨i, hil⟩ a' Wd hl ⟨r, hr⟩ ⟨hi, hall⟩ ⟨u0, u4, u5, u6, u7, u8, u9, u10, u11, u12, u13, u14, u15, u16, u17, u18, u19, u20, rfl⟩ hlt
    obtain ⟨q, hq⟩ : ∃ q, L[i]? = some q := ⟨_, List.getElem?_eq_getElem hil⟩
    have c1 := cell_row hi.b1 0 (v := .pointer (some ⟨g, 0, none⟩)) rfl
    have Rd : Rn Wd g ad L.length c W := hR.out.kept (hi.bel.block g lg)
    have cl := Rd.l
    obtain ⟨bb, off, cur, tt, fr, rfl, hbl, hcb, hcc⟩ : ∃ b off cur t fr, ad = some ⟨b, off, none⟩ ∧ b < w.heap.size ∧ w.heap[b]? = some (.cells cur t fr) ∧ ∀ k i, L[k]? = some i → ∀ j u, (insA i)[j]? = some u → cur[off + k * 7 + j]? = some u := by
      rcases hL.out with h | h
      · rw [h] at hq; simp at hq
      · exact h
    have co : Wd.cell? ⟨bb, off + i * 7, none⟩ = some (.int .i64 q.op) := by
      rw [cell_of_row Wd bb _ _ tt fr ((hi.bel.block bb hbl).trans hcb)]
      exact hcc i q hq 0 _ rfl
    have he : endAt L i = (q.op == 3) := by unfold endAt; rw [hq]
    have i1 : (i : Int) < (L.length : Int) := by omega
    have hb2 := hi.b2
    have hs9 := hi.bel.size
    have hl9 := (Array.getElem?_eq_some_iff.1 hi.b1).1
    have hl92 := (Array.getElem?_eq_some_iff.1 hi.b2).1
    replace hall := hide hall
    have hiH := hide hi
    replace hr := hide hr
    replace hq := hide hq
    replace hcb := hide hcb
    replace hcc := hide hcc
    replace Rd := hide Rd
    replace hb2 := hide hb2
    clear hi
    by_cases hop : q.op = 3
    · have i2 : (q.op == 3) = true := by simpa using hop
      rw [i2] at he
      rw [hop] at co
      replace he := hide he
      clear i2 hop
      gi_wp2_with (first | ((with_reducible refine atI_load 65 ?_); refine wlI_load 65 (round_fn l) rfl (ld65 c1) ?_) | ((with_reducible refine atI_load 29 ?_); refine wlI_load 29 (round_fn l) rfl (ld29 cl) ?_) | ((with_reducible refine atI_load 3 ?_); refine wlI_load 3 (round_fn l) rfl (ld3 co) ?_) | ((with_reducible refine atI_store 4 ?_); refine wlI_st4 (round_fn l) hb2.out rfl rfl ?_; intro w7 hn7 B7; replace hn7 := hide hn7; replace B7 := hide B7))
      refine ⟨but_keeps (by exact B7.out) (fun k h => .inl (by omega)), rfl, ⟨(B7.out.block g1 hl9 hne.out).trans hiH.out.b1, hn7.out, hiH.out.bel.trans (B7.out.below hs9 (fun k h => by omega))⟩, ⟨i, hil⟩, by simp, he.out⟩
    · have i2 : (q.op == 3) = false := by simpa using hop
      rw [i2] at he
      replace he := hide he
      replace hop := hide hop
      gi_wp2_with (first | ((with_reducible refine atI_load 65 ?_); refine wlI_load 65 (round_fn l) rfl (ld65 c1) ?_) | ((with_reducible refine atI_load 29 ?_); refine wlI_load 29 (round_fn l) rfl (ld29 cl) ?_) | ((with_reducible refine atI_load 3 ?_); refine wlI_load 3 (round_fn l) rfl (ld3 co) ?_))
      refine ⟨⟨Nat.le_refl _, fun _ _ _ h _ => h⟩, KO.refl _ _ _, hiH.out, fun y hy => ?_⟩
      rcases List.mem_append.1 hy with h | h
      · exact hall.out y h
      · rw [List.mem_singleton.1 h]; exact he.out
  case done =>
    rintro D xs Wd hD hS ⟨hI, hall⟩ hK
    have hr := hide hI.b2
    have hbe := hide hI.bel
    replace hK := hide hK
    have hall2 : res = false := by
      rw [← hres.out, ← hS]
      rw [List.any_eq_false]
      intro i hi
      obtain ⟨x, hx, rfl⟩ := List.mem_map.1 hi
      rw [hall x hx]
      simp
    have hl92 := (Array.getElem?_eq_some_iff.1 hI.b2).1
    clear hI hall hS
    gi_wp2_with (first | ((with_reducible refine atI_store 4 ?_); refine wlI_st4 wide_fn hr.out rfl rfl ?_; intro w7 hn7 B7; replace hn7 := hide hn7; replace B7 := hide B7))
    have hlD := (Array.getElem?_eq_some_iff.1 hK.out).1
    have hK7 : w7.heap[D]? = some (.deferred (some [])) := (B7.out.block D hlD (fun e => by omega)).trans hK.out
    have B77 := grownBy_putObj' w7 D (.deferred none)
    have hn9 : (w7.putObj D (.deferred none)).heap[g2]? = some (.cells #[.bool false] 4 (0, 0)) := (B77.block g2 (by have := B7.out.size; omega) (fun e => by cases e; omega)).trans hn7.out
    refine ⟨by simp, .inl ⟨_, _, rfl, run_takeDeferred hK7, ?_⟩⟩
    refine ⟨_, results_cell0 rfl _ _ g2 (.bool false) rfl (ld4b (cell_row hn9 0 rfl)), ?_, ?_⟩
    · rw [hall2]
    · exact (hbe.out.trans (B7.out.below (by have := hbe.out.size; omega) (fun k e => by omega))).grown B77 (by have := hbe.out.size; have := B7.out.size; omega) (fun k e => by cases e; omega)
  case stop =>
    rintro D cc pr Wd hD hpre ⟨rfl, hI, x, hx, hbad⟩ hK
    have hall2 : res = true := by
      rw [← hres.out, List.any_eq_true]
      exact ⟨x.1, hpre.subset (List.mem_map.2 ⟨x, hx, rfl⟩), hbad⟩
    have hl92 := (Array.getElem?_eq_some_iff.1 hI.b2).1
    have hIH := hide hI
    replace hK := hide hK
    clear hI
    gi_wp2
    have B77 := grownBy_putObj' Wd D (.deferred none)
    have hn9 : (Wd.putObj D (.deferred none)).heap[g2]? = some (.cells #[.bool true] 4 (0, 0)) := (B77.block g2 hl92 (fun e => by cases e; omega)).trans hIH.out.b2
    refine ⟨by simp, .inl ⟨_, _, rfl, run_takeDeferred hK.out, ?_⟩⟩
    refine ⟨_, results_cell0 rfl _ _ g2 (.bool true) rfl (ld4b (cell_row hn9 0 rfl)), ?_, ?_⟩
    · rw [hall2]
    · exact hIH.out.bel.grown B77 hIH.out.bel.size (fun k e => by cases e; omega)
end Go.Proofs.YthgdfgkjaepchaaDoor
namespace Go.Proofs.YthgdfgkjaepchaaDoor
open Go.RowKit Go.Shelf
set_option linter.unusedVariables false
set_option linter.unusedSimpArgs false
attribute [local go_sem] Oper.semAt_some

/-- Cells that are written one by one. -/
def setsB (xs : Array Value) : Nat → List Value → Array Value
  | _, [] => xs
  | o, v :: r => setsB (xs.setIfInBounds o v) (o + 1) r
theorem setsB_mid : ∀ (vs cs p q : List Value), cs.length = vs.length → setsB (p ++ cs ++ q).toArray p.length vs = (p ++ vs ++ q).toArray
  | [], cs, p, q, h => by
    have : cs = [] := List.eq_nil_of_length_eq_zero h
    subst this; rfl
  | v :: r, [], p, q, h => by simp at h
  | v :: r, c :: cs, p, q, h => by
    have e : (p ++ c :: cs ++ q).toArray.setIfInBounds p.length v = ((p ++ [v]) ++ cs ++ q).toArray := by
      apply Array.ext'
      simp
    have := setsB_mid r cs (p ++ [v]) q (by simpa using h)
    show setsB ((p ++ c :: cs ++ q).toArray.setIfInBounds p.length v) (p.length + 1) r = _
    rw [e]
    simpa using this
section
variable {S : Nat → Prop} {w0 w : World} {L : List Ent}
theorem St.setCellsB {g : Nat} {t : TypeId} (i : Nat) : ∀ (vs : List Value) (o : Nat) (w : World) (L : List Ent) (xs : Array Value), St S w0 w L → L[i]? = some (true, g, t, xs) → St S w0 (w.setCells g o vs) (L.set i (true, g, t, setsB xs o vs))
  | [], o, w, L, xs, H, h => by
    have hl := (List.getElem?_eq_some_iff.1 h).1
    have he := (List.getElem?_eq_some_iff.1 h).2
    have : L.set i (true, g, t, xs) = L := by rw [← he]; simp
    show St S w0 w (L.set i (true, g, t, xs))
    rw [this]; exact H
  | v :: r, o, w, L, xs, H, h => by
    have hl := (List.getElem?_eq_some_iff.1 h).1
    have h2 := H.setRow i h (xs.setIfInBounds o v)
    rw [← setCell_eq_setRow w g o xs t (0, 0) v (H.get i h)] at h2
    have h3 := St.setCellsB (g := g) (t := t) i r (o + 1) _ _ (xs.setIfInBounds o v) h2 (show (L.set i (true, g, t, xs.setIfInBounds o v))[i]? = some (true, g, t, xs.setIfInBounds o v) by simp [hl])
    rw [List.set_set] at h3
    exact h3
end
set_option maxHeartbeats 4000000 in
set_option maxRecDepth 100000 in
theorem reg32_4 (n0 : Nat) (ds : List Deferred) (w : World) (gR g b m c : Nat) (ad : Option Addr) (c1 : w.cell? ⟨gR, 0, none⟩ = some (.pointer (some ⟨g, 0, none⟩))) (cl : w.cell? ⟨g, 0, none⟩ = some (.slice ad m c))
    (u0 u3 u4 u5 u6 u7 u8 u9 u10 u11 u12 u13 u14 u15 u16 u17 u18 u19 u20 u21 u22 u23 u24 u25 u26 u27 u28 u29 u30 u31 u32 : Value) (Q : Exit → Act → World → Prop)
    (h : ∀ gA gL gb w', w'.heap[gA]? = some (.cells #[.pointer (some ⟨g, 1, none⟩)] 105 (0, 0)) → w'.heap[gL]? = some (.cells #[.slice ad m c] 29 (0, 0)) → w'.heap[gb]? = some (.cells #[.int .u8 (b : Int)] 5 (0, 0)) → Below w.heap.size w w' → w.heap.size ≤ gA → w.heap.size ≤ gL → w.heap.size ≤ gb → Q .normal { tmps := (List.toArray ((u0 :: .int .u8 (b : Int) :: .pointer (some ⟨gR, 0, none⟩) :: u3 :: u4 :: u5 :: u6 :: u7 :: u8 :: u9 :: .pointer (some ⟨g, 0, none⟩) :: .pointer (some ⟨g, 0, none⟩) :: .pointer (some ⟨g, 0, none⟩) :: .slice ad m c :: .pointer (some ⟨g, 0, none⟩) :: .pointer (some ⟨g, 0, none⟩) :: .pointer (some ⟨g, 1, none⟩) :: .int .u8 (b : Int) :: .func (.func 85) #[] #[.pointer (some ⟨gA, 0, none⟩), .pointer (some ⟨gL, 0, none⟩), .pointer (some ⟨gb, 0, none⟩)] :: u19 :: u20 :: u21 :: u22 :: u23 :: u24 :: u25 :: u26 :: u27 :: u28 :: u29 :: u30 :: u31 :: u32 :: []) : List Value)), defers := ds } w') :
    (Code.region 4 #[{ dst := some 10, op := Op.load 65 (Operand.tmp 2), type := 65, pos := "sim.go:80", after := #[], guard := none }, { dst := some 11, op := Op.nilCheck (Operand.tmp 10), type := 0, pos := "sim.go:80", after := #[{ on := 0, ground := Ground.data }], guard := none }, { dst := some 12, op := Op.fieldAddr 103 (Operand.tmp 11) 0, type := 0, pos := "sim.go:80", after := #[{ on := 1, ground := Ground.data }], guard := none }, { dst := some 13, op := Op.load 29 (Operand.tmp 12), type := 29, pos := "sim.go:80", after := #[{ on := 2, ground := Ground.data }], guard := none }, { dst := some 14, op := Op.load 65 (Operand.tmp 2), type := 65, pos := "sim.go:80", after := #[], guard := none }, { dst := some 15, op := Op.nilCheck (Operand.tmp 14), type := 0, pos := "sim.go:80", after := #[{ on := 4, ground := Ground.data }], guard := none }, { dst := some 16, op := Op.fieldAddr 103 (Operand.tmp 15) 1, type := 0, pos := "sim.go:80", after := #[{ on := 5, ground := Ground.data }], guard := none }, { dst := some 17, op := Op.move (Operand.tmp 1), type := 5, pos := "sim.go:80", after := #[], guard := none }, { dst := some 18, op := Op.call { callee := Callee.value (Operand.func 53), args := #[Operand.tmp 13, Operand.tmp 16, Operand.tmp 17], argTypes := #[29, 105, 5] }, type := 97, pos := "sim.go:80", after := #[{ on := 3, ground := Ground.data }, { on := 6, ground := Ground.data }, { on := 7, ground := Ground.data }], guard := none }] true).wpIn Fence.wide n0 Tryd.prog Q { tmps := (List.toArray ((u0 :: .int .u8 (b : Int) :: .pointer (some ⟨gR, 0, none⟩) :: u3 :: u4 :: u5 :: u6 :: u7 :: u8 :: u9 :: u10 :: u11 :: u12 :: u13 :: u14 :: u15 :: u16 :: u17 :: u18 :: u19 :: u20 :: u21 :: u22 :: u23 :: u24 :: u25 :: u26 :: u27 :: u28 :: u29 :: u30 :: u31 :: u32 :: []) : List Value)), defers := ds } w := by
  have hD : Below w.heap.size w w.drew := (Below.refl _ w).drew
  have c1d : w.drew.cell? ⟨gR, 0, none⟩ = some (.pointer (some ⟨g, 0, none⟩)) := c1
  have cld : w.drew.cell? ⟨g, 0, none⟩ = some (.slice ad m c) := cl
  replace h := hide h
  refine Code.wpIn_mono NoPanic.imp ?_
  refine wpIn_region_any (by kernel_rfl) ?_
  change wpAnyIn _ _ _ _ _ _ _ _ _ (World.drew w)
  refine wpAnyIn_take (i := 7) (oi := { dst := some 17, op := Op.move (Operand.tmp 1), type := 5, pos := "sim.go:80", after := #[], guard := none }) (v := ?_) rfl rfl (by kernel_rfl) (by kernel_rfl) (by kernel_rfl) (fun _ _ _ h => h) ⟨Or.inl ⟨by rfl, ?_⟩, fun _ => rfl⟩ ?_
  rotate_left
  · intro w'
    go_simp
    try with_reducible rfl
  try simp only [Act.put, List.setIfInBounds_toArray, List.set_cons_zero, List.set_cons_succ]
  refine wpAnyIn_ready (rs := [0, 4]) (by kernel_rfl) (by simp) ?_
  refine (AllReadyIn.cons (o := { dst := some 10, op := Op.load 65 (Operand.tmp 2), type := 65, pos := "sim.go:80", after := #[], guard := none }) rfl (fun K0 hK0 => ?_) (AllReadyIn.cons (o := { dst := some 14, op := Op.load 65 (Operand.tmp 2), type := 65, pos := "sim.go:80", after := #[], guard := none }) rfl (fun K4 hK4 => ?_) AllReadyIn.nil))
  · refine wpI_ldg 65 wide_fn rfl (by rfl) rfl (ld65 c1d) (hK0 _ _ ?_)
    clear hK0 K0
    try simp only [Act.put, List.setIfInBounds_toArray, List.set_cons_zero, List.set_cons_succ]
    refine wpAnyIn_take (i := 1) (oi := { dst := some 11, op := Op.nilCheck (Operand.tmp 10), type := 0, pos := "sim.go:80", after := #[{ on := 0, ground := Ground.data }], guard := none }) (v := ?_) rfl rfl (by kernel_rfl) (by kernel_rfl) (by kernel_rfl) (fun _ _ _ h => h) ⟨Or.inl ⟨by rfl, ?_⟩, fun _ => rfl⟩ ?_
    rotate_left
    · intro w'
      go_simp
      try with_reducible rfl
    try simp only [Act.put, List.setIfInBounds_toArray, List.set_cons_zero, List.set_cons_succ]
    refine wpAnyIn_take (i := 2) (oi := { dst := some 12, op := Op.fieldAddr 103 (Operand.tmp 11) 0, type := 0, pos := "sim.go:80", after := #[{ on := 1, ground := Ground.data }], guard := none }) (v := ?_) rfl rfl (by kernel_rfl) (by kernel_rfl) (by kernel_rfl) (fun _ _ _ h => h) ⟨Or.inl ⟨by rfl, ?_⟩, fun _ => rfl⟩ ?_
    rotate_left
    · intro w'
      go_simp
      try with_reducible rfl
    try simp only [Act.put, List.setIfInBounds_toArray, List.set_cons_zero, List.set_cons_succ]
    refine wpAnyIn_ready (rs := [3, 4]) (by kernel_rfl) (by simp) ?_
    refine (AllReadyIn.cons (o := { dst := some 13, op := Op.load 29 (Operand.tmp 12), type := 29, pos := "sim.go:80", after := #[{ on := 2, ground := Ground.data }], guard := none }) rfl (fun K3 hK3 => ?_) (AllReadyIn.cons (o := { dst := some 14, op := Op.load 65 (Operand.tmp 2), type := 65, pos := "sim.go:80", after := #[], guard := none }) rfl (fun K4 hK4 => ?_) AllReadyIn.nil))
    · refine wpI_ldg 29 wide_fn rfl (by rfl) rfl (ld29 cld) (hK3 _ _ ?_)
      clear hK3 K3
      try simp only [Act.put, List.setIfInBounds_toArray, List.set_cons_zero, List.set_cons_succ]
      refine wpAnyIn_ready (rs := [4]) (by kernel_rfl) (by simp) ?_
      refine (AllReadyIn.cons (o := { dst := some 14, op := Op.load 65 (Operand.tmp 2), type := 65, pos := "sim.go:80", after := #[], guard := none }) rfl (fun K4 hK4 => ?_) AllReadyIn.nil)
      refine wpI_ldg 65 wide_fn rfl (by rfl) rfl (ld65 c1d) (hK4 _ _ ?_)
      clear hK4 K4
      try simp only [Act.put, List.setIfInBounds_toArray, List.set_cons_zero, List.set_cons_succ]
      refine wpAnyIn_take (i := 5) (oi := { dst := some 15, op := Op.nilCheck (Operand.tmp 14), type := 0, pos := "sim.go:80", after := #[{ on := 4, ground := Ground.data }], guard := none }) (v := ?_) rfl rfl (by kernel_rfl) (by kernel_rfl) (by kernel_rfl) (fun _ _ _ h => h) ⟨Or.inl ⟨by rfl, ?_⟩, fun _ => rfl⟩ ?_
      rotate_left
      · intro w'
        go_simp
        try with_reducible rfl
      try simp only [Act.put, List.setIfInBounds_toArray, List.set_cons_zero, List.set_cons_succ]
      refine wpAnyIn_take (i := 6) (oi := { dst := some 16, op := Op.fieldAddr 103 (Operand.tmp 15) 1, type := 0, pos := "sim.go:80", after := #[{ on := 5, ground := Ground.data }], guard := none }) (v := ?_) rfl rfl (by kernel_rfl) (by kernel_rfl) (by kernel_rfl) (fun _ _ _ h => h) ⟨Or.inl ⟨by rfl, ?_⟩, fun _ => rfl⟩ ?_
      rotate_left
      · intro w'
        go_simp
        try with_reducible rfl
      try simp only [Act.put, List.setIfInBounds_toArray, List.set_cons_zero, List.set_cons_succ]
      refine wpAnyIn_ready (rs := [8]) (by kernel_rfl) (by simp) ?_
      refine (AllReadyIn.cons (o := { dst := some 18, op := Op.call { callee := Callee.value (Operand.func 53), args := #[Operand.tmp 13, Operand.tmp 16, Operand.tmp 17], argTypes := #[29, 105, 5] }, type := 97, pos := "sim.go:80", after := #[{ on := 3, ground := Ground.data }, { on := 6, ground := Ground.data }, { on := 7, ground := Ground.data }], guard := none }) rfl (fun K8 hK8 => ?_) AllReadyIn.nil)
      go_simp
      refine ⟨trivial, fun h => (by cases h), (led_in _ ad m c ⟨g, 1, none⟩ b _).mono ?_⟩
      rintro e w4 ⟨gA, gL, gb, rfl, f1, f2, f3, B4, n1, n2, n3⟩
      replace B4 : Below w.heap.size w.drew w4 := B4
      refine hK8 _ _ ?_
      clear hK8 K8
      try simp only [Act.put, List.setIfInBounds_toArray, List.set_cons_zero, List.set_cons_succ]
      refine wpAnyIn_done (by kernel_rfl) ?_ _
      refine NoPanic.normal ?_
      exact h.out _ _ _ _ f1 f2 f3 (hD.trans B4) n1 n2 n3
    · refine wpI_ldg 65 wide_fn rfl (by rfl) rfl (ld65 c1d) (hK4 _ _ ?_)
      clear hK4 K4
      try simp only [Act.put, List.setIfInBounds_toArray, List.set_cons_zero, List.set_cons_succ]
      refine wpAnyIn_take (i := 5) (oi := { dst := some 15, op := Op.nilCheck (Operand.tmp 14), type := 0, pos := "sim.go:80", after := #[{ on := 4, ground := Ground.data }], guard := none }) (v := ?_) rfl rfl (by kernel_rfl) (by kernel_rfl) (by kernel_rfl) (fun _ _ _ h => h) ⟨Or.inl ⟨by rfl, ?_⟩, fun _ => rfl⟩ ?_
      rotate_left
      · intro w'
        go_simp
        try with_reducible rfl
      try simp only [Act.put, List.setIfInBounds_toArray, List.set_cons_zero, List.set_cons_succ]
      refine wpAnyIn_take (i := 6) (oi := { dst := some 16, op := Op.fieldAddr 103 (Operand.tmp 15) 1, type := 0, pos := "sim.go:80", after := #[{ on := 5, ground := Ground.data }], guard := none }) (v := ?_) rfl rfl (by kernel_rfl) (by kernel_rfl) (by kernel_rfl) (fun _ _ _ h => h) ⟨Or.inl ⟨by rfl, ?_⟩, fun _ => rfl⟩ ?_
      rotate_left
      · intro w'
        go_simp
        try with_reducible rfl
      try simp only [Act.put, List.setIfInBounds_toArray, List.set_cons_zero, List.set_cons_succ]
      refine wpAnyIn_ready (rs := [3]) (by kernel_rfl) (by simp) ?_
      refine (AllReadyIn.cons (o := { dst := some 13, op := Op.load 29 (Operand.tmp 12), type := 29, pos := "sim.go:80", after := #[{ on := 2, ground := Ground.data }], guard := none }) rfl (fun K3 hK3 => ?_) AllReadyIn.nil)
      refine wpI_ldg 29 wide_fn rfl (by rfl) rfl (ld29 cld) (hK3 _ _ ?_)
      clear hK3 K3
      try simp only [Act.put, List.setIfInBounds_toArray, List.set_cons_zero, List.set_cons_succ]
      refine wpAnyIn_ready (rs := [8]) (by kernel_rfl) (by simp) ?_
      refine (AllReadyIn.cons (o := { dst := some 18, op := Op.call { callee := Callee.value (Operand.func 53), args := #[Operand.tmp 13, Operand.tmp 16, Operand.tmp 17], argTypes := #[29, 105, 5] }, type := 97, pos := "sim.go:80", after := #[{ on := 3, ground := Ground.data }, { on := 6, ground := Ground.data }, { on := 7, ground := Ground.data }], guard := none }) rfl (fun K8 hK8 => ?_) AllReadyIn.nil)
      go_simp
      refine ⟨trivial, fun h => (by cases h), (led_in _ ad m c ⟨g, 1, none⟩ b _).mono ?_⟩
      rintro e w4 ⟨gA, gL, gb, rfl, f1, f2, f3, B4, n1, n2, n3⟩
      replace B4 : Below w.heap.size w.drew w4 := B4
      refine hK8 _ _ ?_
      clear hK8 K8
      try simp only [Act.put, List.setIfInBounds_toArray, List.set_cons_zero, List.set_cons_succ]
      refine wpAnyIn_done (by kernel_rfl) ?_ _
      refine NoPanic.normal ?_
      exact h.out _ _ _ _ f1 f2 f3 (hD.trans B4) n1 n2 n3
  · refine wpI_ldg 65 wide_fn rfl (by rfl) rfl (ld65 c1d) (hK4 _ _ ?_)
    clear hK4 K4
    try simp only [Act.put, List.setIfInBounds_toArray, List.set_cons_zero, List.set_cons_succ]
    refine wpAnyIn_take (i := 5) (oi := { dst := some 15, op := Op.nilCheck (Operand.tmp 14), type := 0, pos := "sim.go:80", after := #[{ on := 4, ground := Ground.data }], guard := none }) (v := ?_) rfl rfl (by kernel_rfl) (by kernel_rfl) (by kernel_rfl) (fun _ _ _ h => h) ⟨Or.inl ⟨by rfl, ?_⟩, fun _ => rfl⟩ ?_
    rotate_left
    · intro w'
      go_simp
      try with_reducible rfl
    try simp only [Act.put, List.setIfInBounds_toArray, List.set_cons_zero, List.set_cons_succ]
    refine wpAnyIn_take (i := 6) (oi := { dst := some 16, op := Op.fieldAddr 103 (Operand.tmp 15) 1, type := 0, pos := "sim.go:80", after := #[{ on := 5, ground := Ground.data }], guard := none }) (v := ?_) rfl rfl (by kernel_rfl) (by kernel_rfl) (by kernel_rfl) (fun _ _ _ h => h) ⟨Or.inl ⟨by rfl, ?_⟩, fun _ => rfl⟩ ?_
    rotate_left
    · intro w'
      go_simp
      try with_reducible rfl
    try simp only [Act.put, List.setIfInBounds_toArray, List.set_cons_zero, List.set_cons_succ]
    refine wpAnyIn_ready (rs := [0]) (by kernel_rfl) (by simp) ?_
    refine (AllReadyIn.cons (o := { dst := some 10, op := Op.load 65 (Operand.tmp 2), type := 65, pos := "sim.go:80", after := #[], guard := none }) rfl (fun K0 hK0 => ?_) AllReadyIn.nil)
    refine wpI_ldg 65 wide_fn rfl (by rfl) rfl (ld65 c1d) (hK0 _ _ ?_)
    clear hK0 K0
    try simp only [Act.put, List.setIfInBounds_toArray, List.set_cons_zero, List.set_cons_succ]
    refine wpAnyIn_take (i := 1) (oi := { dst := some 11, op := Op.nilCheck (Operand.tmp 10), type := 0, pos := "sim.go:80", after := #[{ on := 0, ground := Ground.data }], guard := none }) (v := ?_) rfl rfl (by kernel_rfl) (by kernel_rfl) (by kernel_rfl) (fun _ _ _ h => h) ⟨Or.inl ⟨by rfl, ?_⟩, fun _ => rfl⟩ ?_
    rotate_left
    · intro w'
      go_simp
      try with_reducible rfl
    try simp only [Act.put, List.setIfInBounds_toArray, List.set_cons_zero, List.set_cons_succ]
    refine wpAnyIn_take (i := 2) (oi := { dst := some 12, op := Op.fieldAddr 103 (Operand.tmp 11) 0, type := 0, pos := "sim.go:80", after := #[{ on := 1, ground := Ground.data }], guard := none }) (v := ?_) rfl rfl (by kernel_rfl) (by kernel_rfl) (by kernel_rfl) (fun _ _ _ h => h) ⟨Or.inl ⟨by rfl, ?_⟩, fun _ => rfl⟩ ?_
    rotate_left
    · intro w'
      go_simp
      try with_reducible rfl
    try simp only [Act.put, List.setIfInBounds_toArray, List.set_cons_zero, List.set_cons_succ]
    refine wpAnyIn_ready (rs := [3]) (by kernel_rfl) (by simp) ?_
    refine (AllReadyIn.cons (o := { dst := some 13, op := Op.load 29 (Operand.tmp 12), type := 29, pos := "sim.go:80", after := #[{ on := 2, ground := Ground.data }], guard := none }) rfl (fun K3 hK3 => ?_) AllReadyIn.nil)
    refine wpI_ldg 29 wide_fn rfl (by rfl) rfl (ld29 cld) (hK3 _ _ ?_)
    clear hK3 K3
    try simp only [Act.put, List.setIfInBounds_toArray, List.set_cons_zero, List.set_cons_succ]
    refine wpAnyIn_ready (rs := [8]) (by kernel_rfl) (by simp) ?_
    refine (AllReadyIn.cons (o := { dst := some 18, op := Op.call { callee := Callee.value (Operand.func 53), args := #[Operand.tmp 13, Operand.tmp 16, Operand.tmp 17], argTypes := #[29, 105, 5] }, type := 97, pos := "sim.go:80", after := #[{ on := 3, ground := Ground.data }, { on := 6, ground := Ground.data }, { on := 7, ground := Ground.data }], guard := none }) rfl (fun K8 hK8 => ?_) AllReadyIn.nil)
    go_simp
    refine ⟨trivial, fun h => (by cases h), (led_in _ ad m c ⟨g, 1, none⟩ b _).mono ?_⟩
    rintro e w4 ⟨gA, gL, gb, rfl, f1, f2, f3, B4, n1, n2, n3⟩
    replace B4 : Below w.heap.size w.drew w4 := B4
    refine hK8 _ _ ?_
    clear hK8 K8
    try simp only [Act.put, List.setIfInBounds_toArray, List.set_cons_zero, List.set_cons_succ]
    refine wpAnyIn_done (by kernel_rfl) ?_ _
    refine NoPanic.normal ?_
    exact h.out _ _ _ _ f1 f2 f3 (hD.trans B4) n1 n2 n3

section
variable {S : Nat → Prop} {w0 : World} {L : List Ent} {F : Fence} {n : Nat} {w w' : World} {ops : Array Oper} {rest : List Oper} {a : Act} {Q : Exit → Act → World → Prop} {dst : Option Nat} {x y : Operand} {ty : TypeId} {pos : String} {after : Array Edge}
theorem wlS_alloc101 (hF : ∀ f, F.fn f) (H : St S w0 w L) (h : ∀ g w', St S w0 w' ((true, g, 101, pA #[] noW) :: L) → w0.heap.size ≤ g → wpListIn F n Tryd.prog ops Q rest (a.put dst (.pointer (some ⟨g, 0, none⟩))) w') : wpListIn F n Tryd.prog ops Q (⟨dst, .alloc 101, ty, pos, after, none⟩ :: rest) a w := by
  have e : (execOp a.eval ⟨dst, .alloc 101, ty, pos, after, none⟩).run Tryd.prog w = .ok (.value (.pointer (some ⟨w.heap.size, 0, none⟩))) (w.alloc (.cells (pA #[] noW) 101)) := by
    unfold execOp
    kernel_rfl
  exact wlI_val hF (fun c => nofun) e (h _ _ (H.alloc 101 _) H.but.size)
/-- A set is stored into a runner. -/
theorem wlI_st101 (hF : ∀ f, F.fn f) {g : Nat} {v : Value} {W V : List Nat} (hW : OkW W) (hV : OkW V) (hg : w.heap[g]? = some (.cells (pA #[v] W) 103 (0, 0))) (hx : a.eval x = .pointer (some ⟨g, 1, none⟩)) (hy : a.eval y = .agg (wA V)) (h : ∀ w', w'.heap[g]? = some (.cells (pA #[v] V) 103 (0, 0)) → But (fun k => k = g) w w' → wpListIn F n Tryd.prog ops Q rest a w') : wpListIn F n Tryd.prog ops Q (⟨none, .store 101 x y, ty, pos, after, none⟩ :: rest) a w := by
  have hi : (Tryd.prog.info? 101).map (·.size) = some 32 := by kernel_rfl
  have hs : (wA V).size = 32 := by rw [wA_size, hV.len]
  have hth : w.there g 1 (wA V).size := fun j hj => by
    have e : w.cell? ⟨g, 1 + j, none⟩ = some (.int .u64 ((W.getD j 0 : Nat) : Int)) := by
      rw [cell_of_row w g _ _ 103 (0, 0) hg]
      exact pA_at (pre := #[v]) (by rw [hW.len]; omega)
    exact ⟨by rw [e]; rfl, frozen_of_row w g _ _ 103 hg⟩
  have hr := run_storeVar_mid (P := Tryd.prog) w g 1 101 (wA V) hth (by rw [hi, hs]) (wA_all V)
  have H : St (fun k => k = g) w w [(true, g, 103, pA #[v] W)] := ⟨But.refl _ _, fun x hx => by rw [List.mem_singleton.1 hx]; exact hg, fun x hx _ _ => by rw [List.mem_singleton.1 hx], by simp⟩
  have H2 := St.setCellsB (g := g) (t := 103) 0 (wA V).toList 1 w _ _ H rfl
  have e1 : setsB (pA #[v] W) 1 (wA V).toList = pA #[v] V := by
    have := setsB_mid (wA V).toList (wA W).toList [v] [] (by simp [wA_size, hV.len, hW.len])
    simp only [List.append_nil, List.length_cons, List.length_nil, Nat.zero_add] at this
    have e2 : ∀ U : List Nat, ([v] ++ (wA U).toList).toArray = pA #[v] U := fun U => by
      unfold pA
      apply Array.ext'
      simp
    rw [e2, e2] at this
    exact this
  rw [e1] at H2
  refine wlI_skip (w' := w.setCells g 1 (wA V).toList) hF (fun c => nofun) ?_ (h _ (H2.get 0 rfl) H2.but)
  unfold execOp
  simp only [hx, hy, Instr.storeAt, Instr.sureAddr, Sem.run_bind, Sem.run_pure, Result.andThen_ok, hr]
end
/-- What Feed has between two rounds. -/
structure FdI (w0 : World) (gR g5 : Nat) (v : Value) (L : List Ins) (zs : List Nat) (Wd : World) : Prop where
  bR : Wd.heap[gR]? = some (.cells #[v] 65 (0, 0))
  set : ∃ W5, OkW W5 ∧ (∀ m, inW W5 m = true ↔ ∃ z ∈ zs, Eps L z m) ∧ Wd.heap[g5]? = some (.cells (pA #[] W5) 101 (0, 0))
  bel : Below w0.heap.size w0 Wd
theorem FdI.own {w0 : World} {gR g5 B : Nat} {v : Value} {L : List Ins} {zs : List Nat} {W W' : World} {row : Option Nat} (h : FdI w0 gR g5 v L zs W) (hB : w0.heap.size ≤ B) (hg : W.grownBy W' row) (hr : ∀ r, row = some r → B ≤ r ∧ ∃ o : Obj, W.heap[r]? = some o ∧ o.isCells = false) : FdI w0 gR g5 v L zs W' := by
  have ne : ∀ g xs t, W.heap[g]? = some (.cells xs t (0, 0)) → some g ≠ row := fun g xs t h e => by
    obtain ⟨_, o, ho, hc⟩ := hr g e.symm
    rw [h] at ho
    cases ho
    cases hc
  obtain ⟨W5, h1, h2, h3⟩ := h.set
  exact ⟨(hg.block gR (Array.getElem?_eq_some_iff.1 h.bR).1 (ne _ _ _ h.bR)).trans h.bR, ⟨W5, h1, h2, (hg.block g5 (Array.getElem?_eq_some_iff.1 h3).1 (ne _ _ _ h3)).trans h3⟩, h.bel.grown hg h.bel.size (fun k e => by have := (hr k e).1; omega)⟩
theorem nxt_led {L : List Ins} {W : List Nat} (hW : OkW W) {b : Nat} (m : Nat) : (∃ z ∈ ldl L b (mems W), Eps L z m) ↔ nxt L (snW W) b m := by
  constructor
  · rintro ⟨z, hz, he⟩
    obtain ⟨i, hi, hx⟩ := List.mem_filterMap.1 hz
    unfold ldx at hx
    cases hq : L[i]? with
    | none => rw [hq] at hx; cases hx
    | some q =>
      rw [hq] at hx
      simp only at hx
      split at hx
      · rename_i h
        cases hx
        exact ⟨i, q, (mem_mems hW i).1 hi, hq, h.1, h.2, he⟩
      · cases hx
  · rintro ⟨i, q, h1, h2, h3, h4, h5⟩
    exact ⟨q.x.toNat, List.mem_filterMap.2 ⟨i, (mem_mems hW i).2 h1, ldx_yes h2 ⟨h3, h4⟩⟩, h5⟩
theorem ldl_lt {L : List Ins} (hG : GoL L) {b : Nat} {M : List Nat} : ∀ z ∈ ldl L b M, z < L.length := fun z hz => by
  obtain ⟨i, hi, hx⟩ := List.mem_filterMap.1 hz
  unfold ldx at hx
  cases hq : L[i]? with
  | none => rw [hq] at hx; cases hx
  | some q =>
    rw [hq] at hx
    simp only at hx
    split at hx
    · rename_i h
      cases hx
      have := (hG q (List.mem_of_getElem? hq)).1 (.inr (.inr h.1))
      omega
    · cases hx
set_option maxHeartbeats 8000000 in
set_option maxRecDepth 100000 in
theorem feed_in (n : Nat) (hn : 5 ≤ n) (g : Nat) (ad : Option Addr) (c : Nat) (L : List Ins) (W : List Nat) (hW : OkW W) (b : Nat) (hb : b < 256) (w : World) (hR : Rn w g ad L.length c W) (hL : HsI w (fun k => k < w.heap.size ∧ k ≠ g) ad L) (hin : ∀ i, inW W i = true → i < L.length) (hT : Tab w) (h0 : 0 < L.length) (hlen : L.length ≤ 2048) (hG : GoL L) (hok : ∀ q ∈ L, OkS q.s) :
    CallsIn Fence.wide n Tryd.prog 32 #[.pointer (some ⟨g, 0, none⟩), .int .u8 (b : Int)] w fun e w' => ∃ V, e = .returned (.bool (!decide (V = noW))) ∧ OkW V ∧ (∀ m, inW V m = true ↔ nxt L (snW W) b m) ∧ Rn w' g ad L.length c V ∧ But (fun k => k = g) w w' := by
  have H := St.start Nope w
  have lg := hR.lt
  have hpos := hT.pos
  replace hL := hide hL
  replace hR := hide hR
  replace hin := hide hin
  replace hW := hide hW
  replace hT := hide hT
  replace hG := hide hG
  replace hok := hide hok
  refine callsIn_of_wp_marks Tryd.func32 rfl trivial ?_ rfl
  simp only [Tryd.ntmps32, List.size_toArray, List.length_cons, List.length_nil, Nat.reduceAdd, Nat.reduceSub, Array.replicate_succ, Array.replicate_zero, List.push_toArray, List.append_toArray, List.nil_append, List.cons_append]
  gi_wp2_with (first | ((with_reducible refine atI_box 65 ?_); refine wlS_box65 wide_fn H rfl ?_; clear H; intro gR w1 H q1; have c1 := H.cell 0 0 rfl (v := .pointer (some ⟨g, 0, none⟩)) rfl; have hb1 := hide H.below) | ((with_reducible refine atI_load 65 ?_); refine wlI_load 65 wide_fn rfl (ld65 c1) ?_))
  refine ⟨trivial, fun h => (by cases h), (callsIn_wide.2 (isMade_any g ad L.length c h0 w1 (hR.out.kept (hb1.out.block g lg)).l)).mono ?_⟩
  rintro e w3 ⟨rfl, rfl⟩
  clear c1
  gi_wp2_with (first | ((with_reducible refine atI_alloc 101 ?_); refine wlS_alloc101 wide_fn H ?_; clear H; intro g5 w4 H q5; have c1 := H.cell 1 0 rfl (v := .pointer (some ⟨g, 0, none⟩)) rfl; have hb4 := hide H.below))
  have R4 : Rn w4 g ad L.length c W := hR.out.kept (hb4.out.block g lg)
  have hl1 := H.lti 1 rfl
  have hl0 := H.lti 0 rfl
  have hne : Hid (gR ≠ g5) := fun e => by have := H.nd; simp [e] at this
  refine reg32_4 _ [] w4 gR g b L.length c ad c1 R4.l _ _ _ _ _ _ _ _ _ _ _ _ _ _ _ _ _ _ _ _ _ _ _ _ _ _ _ _ _ _ _ _ ?_
  intro gA gL gb w5 f1 f2 f3 B5 n1 n2 n3
  replace H := H.call B5 (Nat.le_refl _)
  have hb5 := H.below
  have hs5 := hb5.size
  have hs45 := B5.size
  have h15 := H.get 1 rfl
  have h05 := H.get 0 rfl
  have R5 : Rn w5 g ad L.length c W := hR.out.kept (hb5.block g lg)
  have hL5 : HsI w5 (fun k => ¬ k = g5) ad L := hL.out.kept (fun k _ hk => hb5.block k hk) (fun k hk h => by omega)
  have hst := led_stops (Pr := fun z => z < L.length) (fun k => k = g5) (n - 1) (by omega) gA gL gb g #[.slice ad L.length c] 103 W hW.out ad c L b hb w5 f1 f2 f3 R5 (hT.out.below hb5) hL5 hok.out hG.out hin.out (by omega) (by omega) (by omega) (fun k hk => by omega) (ldl_lt hG.out)
  have I0 : FdI w gR g5 (.pointer (some ⟨g, 0, none⟩)) L [] w5 := ⟨h15, ⟨noW, OkW.no, fun m => by rw [inW_no]; simp, h05⟩, hb5⟩
  clear H c1 R4
  replace f1 := hide f1
  replace f2 := hide f2
  replace f3 := hide f3
  replace B5 := hide B5
  replace hL5 := hide hL5
  gi_wp2
  refine wpIn_rangeO rfl (by omega) (gf := 85) (lb := #[.pointer (some ⟨gA, 0, none⟩), .pointer (some ⟨gL, 0, none⟩), .pointer (some ⟨gb, 0, none⟩)]) rfl (wide_fn 85) (enters_of Tryd.func85 (by kernel_rfl) rfl)
    hst (fun h k => h.trans k) (fun Wd l o o' hl ho hc _ => ⟨by simp [World.putObj], fun k cs t fr _ e => (World.putObj_heap_other (fun h => by rw [h, ho] at e; cases e; cases hc)).trans e⟩) (Below.refl _ w5) (fun _ => rfl)
    (fun (pr : List { z : Nat // z < L.length }) Wd => FdI w gR g5 (.pointer (some ⟨g, 0, none⟩)) L (pr.map Subtype.val) Wd)
    (fun _ _ _ => False)
    (fun pr Wd Wd' row hs hg hr => hs.own hs5 hg hr)
    (fun _ _ _ _ _ hs _ _ => hs)
    I0
    (fun z a' Wd => ∃ (u0 u3 u4 u7 u8 u9 u10 u11 u12 u13 u14 u15 u16 u17 u18 u19 u20 u21 u22 u23 u24 u25 u26 u27 u28 u29 u30 u31 u32 : Value), a' = { tmps := #[u0, .int .u8 (b : Int), .pointer (some ⟨gR, 0, none⟩), u3, u4, .pointer (some ⟨g5, 0, none⟩), .int .i64 (z.1 : Int), u7, u8, u9, u10, u11, u12, u13, u14, u15, u16, u17, u18, u19, u20, u21, u22, u23, u24, u25, u26, u27, u28, u29, u30, u31, u32], defers := [] })
    (fun x a' _ Wd Wd' row hs hg hr => hs) ?assign ?body ?done ?stop
  case assign =>
    intro l pr x Wd K hi hK
    simp only [encN, List.zip_toArray, List.zip_cons_cons, List.zip_nil_left, List.zip_nil_right, List.foldl_toArray, List.foldl_cons, List.foldl_nil, List.setIfInBounds_toArray, List.set_cons_zero, List.set_cons_succ]
    replace hK := hide hK
    replace hi := hide hi
    gi_wp2
    exact hK.out _ Wd ⟨Nat.le_refl _, fun _ _ _ h _ => h⟩ (Kc.refl _ _) hi.out ⟨_, _, _, _, _, _, _, _, _, _, _, _, _, _, _, _, _, _, _, _, _, _, _, _, _, _, _, _, _, rfl⟩
  case body =>
    rintro l pr ⟨z, hz⟩ a' Wd hl ⟨r, hr⟩ hi ⟨u0, u3, u4, u7, u8, u9, u10, u11, u12, u13, u14, u15, u16, u17, u18, u19, u20, u21, u22, u23, u24, u25, u26, u27, u28, u29, u30, u31, u32, rfl⟩ hlt
    have c1 := cell_row hi.bR 0 (v := .pointer (some ⟨g, 0, none⟩)) rfl
    have Rd : Rn Wd g ad L.length c W := hR.out.kept (hi.bel.block g lg)
    have cl := Rd.l
    obtain ⟨W5, k1, k2, k3⟩ := hi.set
    have hsd := hi.bel.size
    have hLd : HsI Wd (fun k => k < Wd.heap.size ∧ k ≠ g5) ad L := hL.out.kept (fun k _ hk => hi.bel.block k hk) (fun k hk h => by omega)
    have hcl : Clsd L (snW W5) := fun i q hi2 hq => by
      have hi3 : inW W5 i = true := hi2
      obtain ⟨y, hy, he⟩ := (k2 i).1 hi3
      exact ⟨fun h => (k2 _).2 ⟨y, hy, he.goX hq h⟩, fun h => (k2 _).2 ⟨y, hy, he.goY hq h⟩⟩
    have hst2 : Calls Tryd.prog 51 #[.slice ad L.length c, .pointer (some ⟨g5, 0, none⟩), .int .i64 (z : Int)] Wd _ := callsIn_wide.1 (stand_in 5 (by omega) ad c L z g5 #[] 101 W5 Wd hLd hG.out hlen hz k1 hcl k3)
    have lR := (Array.getElem?_eq_some_iff.1 hi.bR).1
    replace hst2 := hide hst2
    replace k2 := hide k2
    replace k3 := hide k3
    have hiH := hide hi
    replace hr := hide hr
    replace Rd := hide Rd
    replace hLd := hide hLd
    replace hcl := hide hcl
    clear hi
    gi_wp2_with (first | ((with_reducible refine atI_load 65 ?_); refine wlI_load 65 (round_fn l) rfl (ld65 c1) ?_) | ((with_reducible refine atI_load 29 ?_); refine wlI_load 29 (round_fn l) rfl (ld29 cl) ?_))
    refine ⟨trivial, fun h => (by cases h), (callsIn_wide.2 hst2.out).mono ?_⟩
    rintro e w9 ⟨⟨v, rfl⟩, hb9, W9, hW9, hin9, hs9⟩
    replace hb9 := hide hb9
    replace hin9 := hide hin9
    replace hs9 := hide hs9
    gi_wp2
    refine ⟨but_keeps hb9.out (fun k h => .inl (by omega)), ⟨hb9.out.size, fun k cs t fr hk e => (hb9.out.block k (Array.getElem?_eq_some_iff.1 e).1 hk).trans e⟩, ⟨(hb9.out.block gR lR hne.out).trans hiH.out.bR, ⟨W9, hW9, fun m => ?_, hs9.out⟩, hiH.out.bel.trans (hb9.out.below hsd (fun k h => by omega))⟩⟩
    rw [hin9.out m, k2.out m]
    simp only [List.map_append, List.map_cons, List.map_nil, List.mem_append, List.mem_singleton]
    constructor
    · rintro (⟨y, hy, he⟩ | he)
      · exact ⟨y, .inl hy, he⟩
      · exact ⟨z, .inr rfl, he⟩
    · rintro ⟨y, hy | hy, he⟩
      · exact .inl ⟨y, hy, he⟩
      · rw [hy] at he; exact .inr he
  case done =>
    rintro D xs Wd hD hS hI hK
    obtain ⟨W5, k1, k2, k3⟩ := hI.set
    have c1 := cell_row hI.bR 0 (v := .pointer (some ⟨g, 0, none⟩)) rfl
    have Rd : Rn Wd g ad L.length c W := hR.out.kept (hI.bel.block g lg)
    have hl101 : (loadVar 101 ⟨g5, 0, none⟩).run Tryd.prog Wd = .ok (.agg (wA W5)) Wd := load101 k1 k3
    have lR := (Array.getElem?_eq_some_iff.1 hI.bR).1
    have hsd := hI.bel.size
    have k4 : ∀ m, inW W5 m = true ↔ nxt L (snW W) b m := fun m => by
      rw [k2 m, hS]
      exact nxt_led hW.out m
    replace k2 := hide k2
    replace k3 := hide k3
    replace k4 := hide k4
    replace hl101 := hide hl101
    replace hS := hide hS
    replace Rd := hide Rd
    have hIH := hide hI
    replace hK := hide hK
    clear hI
    gi_wp2_with (first | ((with_reducible refine atI_load 65 ?_); refine wlI_load 65 wide_fn rfl (ld65 c1) ?_) | ((with_reducible refine atI_load 101 ?_); refine wlI_load 101 wide_fn rfl hl101.out ?_) | ((with_reducible refine atI_store 101 ?_); refine wlI_st101 wide_fn hW.out k1 Rd.out rfl rfl ?_; intro w7 hn7 B7; have c7 := cell_row ((B7.block gR lR (by omega)).trans hIH.out.bR) 0 (v := .pointer (some ⟨g, 0, none⟩)) rfl; clear c1; replace hn7 := hide hn7; replace B7 := hide B7) | ((with_reducible refine atI_load 65 ?_); refine wlI_load 65 wide_fn rfl (ld65 c7) ?_))
    refine ⟨trivial, fun h => (by cases h), (callsIn_wide.2 (dead_any g ad L.length c h0 W5 k1 w7 hn7.out)).mono ?_⟩
    rintro e w8 ⟨rfl, rfl⟩
    generalize hdd : decide (W5 = noW) = dd
    replace hdd := hide hdd
    gi_wp2
    have hlD := (Array.getElem?_eq_some_iff.1 hK.out).1
    have hK7 : w8.heap[D]? = some (.deferred (some [])) := (B7.out.block D hlD (fun e => by omega)).trans hK.out
    have B77 := grownBy_putObj' w8 D (.deferred none)
    refine ⟨by simp, .inl ⟨_, _, rfl, run_takeDeferred hK7, ?_⟩⟩
    refine ⟨_, results_tmp rfl _ _ _, W5, ?_, k1, k4.out, (B77.block g (by have := B7.out.size; omega) (fun e => by cases e; omega)).trans hn7.out, ?_⟩
    · rw [hdd.out]; rfl
    · exact ((but_of_below hIH.out.bel (fun k => k = g) (fun k hk h => by omega)).trans B7.out (fun _ _ h => h)).grown B77 (fun k e hk => by cases e; omega)
  case stop => rintro D cc pr Wd hD hS h; exact h.elim
end Go.Proofs.YthgdfgkjaepchaaDoor
namespace Go.Proofs.YthgdfgkjaepchaaDoor
open Go.RowKit Go.Shelf
set_option linter.unusedVariables false
set_option linter.unusedSimpArgs false

/-- The bytes of a text, as numbers. -/
def bys (s : ByteArray) : List Nat := (List.range s.size).map (fun k => (bt s k).toNat)
theorem bys_len (s : ByteArray) : (bys s).length = s.size := by simp [bys]
theorem bys_at {s : ByteArray} {k : Nat} (h : k < s.size) : (bys s)[k]? = some (bt s k).toNat := by simp [bys, h]
theorem bys_take {s : ByteArray} {k : Nat} (h : k < s.size) : (bys s).take (k + 1) = (bys s).take k ++ [(bt s k).toNat] := by
  rw [List.take_add_one, bys_at h]
  rfl
theorem eps_lt {L : List Ins} (hG : GoL L) {i j : Nat} (h : i < L.length) (e : Eps L i j) : j < L.length := by
  induction e with
  | refl => exact h
  | goX _ h1 h2 ih => have := (hG _ (List.mem_of_getElem? h1)).1 (by omega); omega
  | goY _ h1 h2 ih => have := (hG _ (List.mem_of_getElem? h1)).2 h2; omega
theorem nxt_lt {L : List Ins} (hG : GoL L) {S : Sn} {b j : Nat} (h : nxt L S b j) : j < L.length := by
  obtain ⟨i, q, _, h2, h3, _, h5⟩ := h
  have := (hG _ (List.mem_of_getElem? h2)).1 (.inr (.inr h3))
  exact eps_lt hG (by omega) h5
theorem stn_lt {L : List Ins} (hG : GoL L) (h0 : 0 < L.length) (s : List Nat) : ∀ j, stn L s j → j < L.length := by
  rcases List.eq_nil_or_concat s with rfl | ⟨p, b, rfl⟩
  · exact fun j h => eps_lt hG h0 h
  · rw [List.concat_eq_append, stn_snoc]
    exact fun j h => nxt_lt hG h
theorem nxt_congr {L : List Ins} {S T : Sn} (h : ∀ m, S m ↔ T m) (b m : Nat) : nxt L S b m ↔ nxt L T b m := by
  constructor
  · rintro ⟨i, q, h1, h2⟩; exact ⟨i, q, (h i).1 h1, h2⟩
  · rintro ⟨i, q, h1, h2⟩; exact ⟨i, q, (h i).2 h1, h2⟩
theorem accS_congr {L : List Ins} {S T : Sn} (h : ∀ m, S m ↔ T m) : accS L S ↔ accS L T := by
  constructor
  · rintro ⟨i, q, h1, h2⟩; exact ⟨i, q, (h i).1 h1, h2⟩
  · rintro ⟨i, q, h1, h2⟩; exact ⟨i, q, (h i).2 h1, h2⟩
theorem stn_dead {L : List Ins} (p r : List Nat) (h : ∀ m, ¬ stn L p m) : ∀ m, ¬ stn L (p ++ r) m := by
  unfold stn
  rw [List.foldl_append]
  exact fold_dead r _ h
/-- A runner that has read p. -/
structure RnS (L : List Ins) (g : Nat) (ad : Option Addr) (c : Nat) (p : List Nat) (W : List Nat) (w : World) : Prop where
  ok : OkW W
  st : ∀ m, inW W m = true ↔ stn L p m
  rn : Rn w g ad L.length c W
set_option maxHeartbeats 4000000 in
set_option maxRecDepth 100000 in
theorem match_any (ad : Option Addr) (c : Nat) (L : List Ins) (s : ByteArray) (w : World) (hL : HsI w (fun k => k < w.heap.size) ad L) (hT : Tab w) (hG : GoL L) (hok : ∀ q ∈ L, OkS q.s) (hc : chkS L s = 0) (h0 : 0 < L.length) (hlen : L.length ≤ 2048) (hs : s.size ≤ 65536) :
    Calls Tryd.prog 15 #[.slice ad L.length c, .string s] w fun e w' => Below w.heap.size w w' ∧ ∃ x : Bool, e = .returned (.tuple #[.bool x, .int .i64 0]) ∧ (x = true ↔ accS L (stn L (bys s))) := by
  have H1 := hide (check_sim ad c L s w hL)
  rw [hc] at H1
  have hpos := hT.pos
  replace hL := hide hL
  replace hT := hide hT
  replace hG := hide hG
  replace hok := hide hok
  clear hc
  go_enter Tryd.func15, Tryd.ntmps15
  go_wp2_with fail
  refine H1.out.mono ?_
  rintro e w1 ⟨rfl, B1⟩
  have hL1 : HsI w1 (fun k => k < w1.heap.size) ad L := hL.out.kept (fun k _ hk => B1.block k hk) (fun k hk h => by have := B1.size; omega)
  replace B1 := hide B1
  replace hL1 := hide hL1
  go_wp2_with fail
  refine (begin_any ad c L w1 hL1.out hG.out hlen h0).mono ?_
  rintro e w2 ⟨g, W, rfl, hg, B2, hW, hst, hR⟩
  have hs1 := B1.out.size
  have B12 : Below w.heap.size w w2 := B1.out.trans (B2.mono hs1)
  have R2 : Hid (RnS L g ad c ((bys s).take 0) W w2) := ⟨hW, hst, hR⟩
  replace B12 := hide B12
  replace B2 := hide B2
  clear hst hR hW
  have hgl : w.heap.size ≤ g := by omega
  go_wp2_with fail
  go_loopw [19] (fun v wr => ∃ (k : Nat) (W : List Nat), v = .int .i64 ((k : Nat) : Int) ∧ k ≤ s.size ∧ Hid (RnS L g ad c ((bys s).take k) W wr) ∧ Hid (Below w.heap.size w wr)) (fun v _ => s.size - (RowKit.intOf v).toNat)
  case atStart => exact ⟨0, W, rfl, Nat.zero_le _, R2, B12⟩
  case round =>
    obtain ⟨k, V, rfl, hk, hR, hB⟩ := hrel
    have hBs := hB.out.size
    have hLr : Hid (HsI wr (fun k => k < wr.heap.size ∧ k ≠ g) ad L) := hL.out.kept (fun k _ hk => hB.out.block k hk) (fun k hk h => by omega)
    have hTr : Hid (Tab wr) := hT.out.below hB.out
    have hin : Hid (∀ i, inW V i = true → i < L.length) := fun i hi => stn_lt hG.out h0 _ i ((hR.out.st i).1 hi)
    by_cases hlt : k < s.size
    · have i1 : (k : Int) < (s.size : Int) := by omega
      have i2 : ¬ ((s.size : Int) ≤ (k : Int)) := by omega
      have b0 := bt_eq hlt
      have hbr := bt_range s k
      obtain ⟨b, hb⟩ : ∃ b : Nat, bt s k = (b : Int) := ⟨(bt s k).toNat, by omega⟩
      have hb2 : b < 256 := by omega
      have htk := bys_take hlt
      rw [hb] at b0 htk
      simp only [Int.toNat_natCast] at htk
      have hfeed := hide (callsIn_wide.1 (feed_in 6 (by omega) g ad c L V hR.out.ok b hb2 wr hR.out.rn hLr.out hin.out hTr.out h0 hlen hG.out hok.out))
      replace htk := hide htk
      replace hb := hide hb
      clear hbr
      have hltH := hide hlt
      go_wp2_with fail
      refine hfeed.out.mono ?_
      rintro e w9 ⟨V9, rfl, hV9, hst9, hR9, hb9⟩
      have hS9 : RnS L g ad c ((bys s).take (k + 1)) V9 w9 := ⟨hV9, fun m => by
        rw [hst9 m, htk.out, stn_snoc]
        exact nxt_congr (fun i => hR.out.st i) b m, hR9⟩
      have hB9 : Hid (Below w.heap.size w w9) := hB.out.trans (hb9.below hBs (fun k e => by omega))
      by_cases hd : V9 = noW
      · have hdd : decide (V9 = noW) = true := by simp [hd]
        rw [hdd]
        have hno : ¬ accS L (stn L (bys s)) := by
          have hn : ∀ m, ¬ stn L ((bys s).take (k + 1)) m := fun m h => by
            have := (hS9.st m).2 h
            rw [hd, inW_no] at this
            cases this
          have := stn_dead ((bys s).take (k + 1)) ((bys s).drop (k + 1)) hn
          rw [List.take_append_drop] at this
          rintro ⟨i, _, h1, _⟩
          exact this i h1
        replace hno := hide hno
        replace hS9 := hide hS9
        clear hst9 hR9 hb9 hd
        go_wp2_with fail
        go_ret2
        exact ⟨hB9.out, false, rfl, by simpa using hno.out⟩
      · have hdd : decide (V9 = noW) = false := by simp [hd]
        rw [hdd]
        replace hS9 := hide hS9
        clear hst9 hR9 hb9 hd
        go_wp2_with fail
        go_roundw
        case rel => exact ⟨k + 1, V9, by go_num, hltH.out, hS9, hB9⟩
        case measure => have := hltH.out; simp [RowKit.intOf]; omega
    · obtain rfl : k = s.size := by omega
      have hall : (bys s).take s.size = bys s := by rw [← bys_len s, List.take_length]
      have hacc := hide (callsIn_wide.1 (acc_in 5 (by omega) g ad c L V hR.out.ok wr hR.out.rn (hLr.out.kept (fun _ _ _ => rfl) (fun k _ h => h.1)) hin.out hTr.out h0))
      go_wp2_with fail
      refine hacc.out.mono ?_
      rintro e w9 ⟨rfl, B9⟩
      have hx : accB L V = true ↔ accS L (stn L (bys s)) := by
        rw [accB_iff hR.out.ok]
        refine accS_congr (fun m => ?_)
        have := hR.out.st m
        rw [hall] at this
        exact this
      generalize accB L V = xb at hx
      replace hx := hide hx
      replace B9 := hide B9
      go_wp2_with fail
      go_ret2
      exact ⟨hB.out.trans (B9.out.mono hBs), xb, rfl, hx.out⟩
end Go.Proofs.YthgdfgkjaepchaaDoor
namespace Go.Proofs.YthgdfgkjaepchaaDoor
open Go.RowKit Go.Shelf
set_option linter.unusedVariables false
set_option linter.unusedSimpArgs false
attribute [local go_sem] Oper.semAt_some

/-- What is told abides when the block B turns. -/
def TurnsAt {β : Type} (B : Nat) (J : β → World → Prop) : Prop := ∀ s W W', J s W → W.grownBy W' (some B) → J s W'
/-- What an iterator hands out that turns, besides, the one block where the heap ended when it was called. -/
def SeqP {α : Type} (F : Fence) (n : Nat) (P : Program) (g : Nat) (lb : Array Value) (encs : α → Array Value) (Kp : Nat → World → World → Prop) (S Sp : List α → Prop) (N : Nat) (w : World) : Prop :=
  ∀ (l : Nat) (J Jx : List α → World → Prop) (W : World), Below w.heap.size w W → OwnFrom W.heap.size J → OwnFrom W.heap.size Jx → TurnsAt W.heap.size J → TurnsAt W.heap.size Jx →
    (∀ pre x W1, J pre W1 → pre.length < N → W.heap.size < W1.heap.size → YieldAt F (n - 1) P l (encs x) W1 fun e W' =>
      KeepsFrom W.heap.size W1 W' ∧ ((e = .returned (.bool true) ∧ J (pre ++ [x]) W' ∧ Kp W.heap.size W1 W') ∨ (e = .returned (.bool false) ∧ Jx (pre ++ [x]) W'))) →
    J [] W →
    CallsIn F n P g (#[.func (.yield l) #[] #[]] ++ lb) W fun e W' => (∃ v, e = .returned v) ∧ ((∃ xs, S xs ∧ J xs W') ∨ (∃ pre, Sp pre ∧ Jx pre W'))
theorem turn_record {α : Type} {B l D : Nat} {I : List α → World → Prop} {o1 o2 : Obj} (hI : TurnsAt B I) (hl : l ≠ B) (hD : D ≠ B) : TurnsAt B (fun pre W => I pre W ∧ W.heap[l]? = some o1 ∧ W.heap[D]? = some o2) := fun s A A' hs hg =>
  ⟨hI s A A' hs.1 hg, (hg.block l (Array.getElem?_eq_some_iff.1 hs.2.1).1 (fun e => hl (by cases e; rfl))).trans hs.2.1, (hg.block D (Array.getElem?_eq_some_iff.1 hs.2.2).1 (fun e => hD (by cases e; rfl))).trans hs.2.2⟩
section
variable {F : Fence} {n : Nat} {P : Program} {w : World}
/-- The range. -/
theorem wpIn_rangeP {α : Type} {g : Operand} {ps : Array Tmp} {assign body : Code} {Q : Exit → Act → World → Prop} {a : Act}
    (hro : F.round = none) (h1 : 1 ≤ n) {gf : Nat} {lb : Array Value} (hg : a.eval g = .func (.func gf) #[] lb) (hFg : F.fn gf) (eg : ∀ args w, (callFunc gf args).run P w = .ok (.enter gf args) w)
    {encs : α → Array Value} {Kp : Nat → World → World → Prop} {S Sp : List α → Prop} {N : Nat} {w0 : World} (hseq : SeqP F (n - 1) P gf lb encs Kp S Sp N w0)
    (hKt : ∀ {A B C : World}, Kp (w.heap.size + 2) A B → Kp (w.heap.size + 2) B C → Kp (w.heap.size + 2) A C) (hKb : ∀ (W : World) (l : Nat) (o o' : Obj), w.heap.size ≤ l → W.heap[l]? = some o → o.isCells = false → o.isWalk = false → Kp (w.heap.size + 2) W (W.putObj l o')) (hb0 : Below w0.heap.size w0 w) (hps : ∀ x, (encs x).size = ps.size)
    (I : List α → World → Prop) (Ix : Code → List α → World → Prop) (hI : OwnFrom w.heap.size I) (hIx : ∀ c, OwnFrom w.heap.size (Ix c)) (h0 : I [] w) (hIt : TurnsAt (w.heap.size + 2) I) (hIxt : ∀ c, TurnsAt (w.heap.size + 2) (Ix c)) (Ax : α → Act → World → Prop) (hAx : ∀ x a', OwnFrom w.heap.size (fun (_ : Unit) W => Ax x a' W))
    (hassign : ∀ (l : Nat) (pre : List α) (x : α) (W : World) (K : Act → World → Prop), I pre W → (∀ a' W', KeepsFrom w.heap.size W W' → Kp (w.heap.size + 2) W W' → I pre W' → Ax x a' W' → K a' W') →
      assign.wpIn (F.inRound l) (n - 1 - 1) P (Exit.then K (fun _ _ _ => False)) { tmps := (ps.zip (encs x)).foldl (fun t (p, v) => t.setIfInBounds p v) a.tmps, defers := [] } W)
    (hbody : ∀ (l : Nat) (pre : List α) (x : α) (a' : Act) (W : World), w.heap.size ≤ l → (∃ r, W.heap[l]? = some (.loop r)) → I pre W → Ax x a' W → pre.length < N → w.heap.size + 2 < W.heap.size → body.wpIn (F.inRound l) (n - 1 - 1) P (ownPostG w.heap.size (Kp (w.heap.size + 2)) I Ix (pre ++ [x]) W) a' W)
    (hdone : ∀ (D : Nat) (xs : List α) (W : World), w.heap.size ≤ D → S xs → I xs W → W.heap[D]? = some (.deferred (some [])) → Q .normal { a with defers := { target := .collected D, args := #[] } :: a.defers } W)
    (hstop : ∀ (D : Nat) (c : Code) (pre : List α) (W : World), w.heap.size ≤ D → Sp pre → Ix c pre W → W.heap[D]? = some (.deferred (some [])) → c.wpIn F n P Q { a with defers := { target := .collected D, args := #[] } :: a.defers } W) :
    (Code.rangeFunc g ps assign body).wpIn F n P Q a w := by
  refine wpIn_rangeFunc ?_
  intro fn hfn
  rw [hro]
  obtain ⟨rec, hrec⟩ : ∃ rec : LoopState → Option Code → Loop, rec = fun st pe => { state := st, pending := pe, fn, tmps := a.tmps, params := ps, assign, body, defers := w.heap.size } := ⟨_, rfl⟩
  obtain ⟨W1, hW1⟩ : ∃ W1, (w.alloc (.deferred (some []))).alloc (.loop (rec .ready none)) = W1 := ⟨_, rfl⟩
  have hs1 : W1.heap.size = w.heap.size + 2 := by rw [← hW1]; simp
  have hL1 : W1.heap[w.heap.size + 1]? = some (.loop (rec .ready none)) := by
    rw [← hW1]; have := World.alloc_heap_new (w.alloc (.deferred (some []))) (.loop (rec .ready none)); rwa [World.size_alloc] at this
  have hK1 : W1.heap[w.heap.size]? = some (.deferred (some [])) := by
    rw [← hW1]; exact (Below.heap_alloc _ _ _ (by simp)).trans (World.alloc_heap_new w _)
  have hI1 : I [] W1 := by rw [← hW1]; exact hI.alloc _ (hI.alloc _ h0)
  have hb1 : Below w0.heap.size w0 W1 := by
    rw [← hW1]; exact hb0.trans ((((Below.refl _ w).alloc (Nat.le_refl _) _).alloc (by simp) _).mono hb0.size)
  have up : ∀ {J : List α → World → Prop}, OwnFrom w.heap.size J → OwnFrom W1.heap.size J := fun h s A A' row hs hg hr => h s A A' row hs hg (fun r e => ⟨by have := (hr r e).1; omega, (hr r e).2⟩)
  refine ⟨w.heap.size + 1, [{ target := .collected w.heap.size, args := #[] }], W1, { target := .fn (.func gf) lb, args := #[.func (.yield (w.heap.size + 1)) #[] #[]] }, W1, gf,
    #[.func (.yield (w.heap.size + 1)) #[] #[]] ++ lb, W1, ?_, ?_, ?_, ?_, fun _ => h1, ?_⟩
  · rw [← hW1, hrec]; exact run_enterLoop_outer _ _ _ _ _
  · simp only [resolve, hg]
    simp [go_sem]
  · intro f' hf'; simp [Target.leads] at hf'; subst hf'; exact hFg
  · simp [invoke, go_sem, eg]
  · refine (hseq (w.heap.size + 1)
      (fun pre W => I pre W ∧ W.heap[w.heap.size + 1]? = some (.loop (rec .ready none)) ∧ W.heap[w.heap.size]? = some (.deferred (some [])))
      (fun pre W => ∃ c, Ix c pre W ∧ W.heap[w.heap.size + 1]? = some (.loop (rec .done (some c))) ∧ W.heap[w.heap.size]? = some (.deferred (some [])))
      W1 hb1 (own_record (up hI) (by omega) (by omega))
      (fun s A A' row hs hg' hr => by
        obtain ⟨c, hc⟩ := hs
        exact ⟨c, own_record (up (hIx c)) (by omega) (by omega) s A A' row hc hg' hr⟩)
      (by rw [hs1]; exact turn_record hIt (by omega) (by omega))
      (fun s A A' hs hg' => by
        obtain ⟨c, hc⟩ := hs
        rw [hs1] at hg'
        exact ⟨c, turn_record (hIxt c) (by omega) (by omega) s A A' hc hg'⟩)
      ?_ ⟨hI1, hL1, hK1⟩).mono ?_
    · rintro pre x W ⟨hi, hl, hk⟩ hlen hsz
      have hy := run_yield (P := P) (args := encs x) hl (by rw [hrec]; exact hps x)
      rw [hrec] at hy
      refine ⟨fn, _, assign, body, hy, roundIn_of_wpIn hfn (hassign _ pre x W _ hi ?_)⟩
      clear hy
      intro a' Wa hkfa hkpa hia hax
      have hla := hkfa.same _ _ (by omega) hl rfl
      have hka := hkfa.same _ _ (Nat.le_refl _) hk rfl
      have hlt : w.heap.size + 1 < Wa.heap.size := (Array.getElem?_eq_some_iff.1 hla).1
      refine ⟨_, run_beginRound hla (by rw [hrec]), ?_⟩
      obtain ⟨Wb, hWb⟩ : ∃ Wb, Wb = Wa.putObj (w.heap.size + 1) (.loop { rec .ready none with state := .busy }) := ⟨_, rfl⟩
      have hl2 : Wb.heap[w.heap.size + 1]? = some (.loop { rec .ready none with state := .busy }) := by rw [hWb]; exact World.putObj_heap_same hlt
      have hk2 : Wb.heap[w.heap.size]? = some (.deferred (some [])) := by rw [hWb]; exact (World.putObj_heap_other (by omega)).trans hka
      have hw2 : Kp (w.heap.size + 2) Wa Wb := by rw [hWb]; exact hKb _ _ _ _ (by omega) hla rfl rfl
      have hib : I pre Wb := by rw [hWb]; exact hI.putObj _ hia (by omega) hla rfl
      have hab : Ax x a' Wb := by rw [hWb]; exact (hAx x a').putObj (s := ()) _ hax (by omega) hla rfl
      have hkf2 : KeepsFrom W1.heap.size W Wb := (KeepsFrom.trans ⟨hkfa.size, fun k o hk => hkfa.same k o (by omega)⟩ (by rw [hWb]; exact keeps_put (by omega)))
      rw [← hWb]
      refine wpIn_mono (hbody _ pre x a' _ (by omega) ⟨_, hl2⟩ hib hab hlen (by rw [hWb]; have := hkfa.size; simp [World.putObj]; omega)) ?_
      have fin : ∀ (jump : Option Code) (W3 : World), KeepsFrom w.heap.size Wb W3 →
          (Instr.endRound (w.heap.size + 1) jump).run P W3 = .ok (.bool jump.isNone) (W3.putObj (w.heap.size + 1) (.loop (rec (if jump.isNone then .ready else .done) jump))) ∧
          W3.heap[w.heap.size + 1]? = some (.loop { rec .ready none with state := .busy }) ∧
          (W3.putObj (w.heap.size + 1) (.loop (rec (if jump.isNone then .ready else .done) jump))).heap[w.heap.size + 1]? = some (.loop (rec (if jump.isNone then .ready else .done) jump)) ∧
          (W3.putObj (w.heap.size + 1) (.loop (rec (if jump.isNone then .ready else .done) jump))).heap[w.heap.size]? = some (.deferred (some [])) ∧
          KeepsFrom W1.heap.size W (W3.putObj (w.heap.size + 1) (.loop (rec (if jump.isNone then .ready else .done) jump))) := fun jump W3 hk3 => by
        have hl3 := hk3.same _ _ (by omega) hl2 rfl
        have := run_endRound (P := P) jump hl3
        rw [hrec] at this ⊢
        refine ⟨this, by rw [hrec] at hl3; exact hl3, World.putObj_heap_same (Array.getElem?_eq_some_iff.1 hl3).1, (World.putObj_heap_other (by omega)).trans (hk3.same _ _ (Nat.le_refl _) hk2 rfl), ?_⟩
        exact hkf2.trans (KeepsFrom.trans ⟨hk3.size, fun k o hk => hk3.same k o (by omega)⟩ (keeps_put (by omega)))
      rintro e a3 W3 hp
      cases e with
      | normal =>
        obtain ⟨hk3, hkp3, hi3⟩ := hp
        obtain ⟨hr, hl3, hl4, hk4, hkf⟩ := fin none W3 hk3
        exact ⟨_, _, hr, hkf, .inl ⟨rfl, ⟨hI.putObj _ hi3 (by omega) hl3 rfl, hl4, hk4⟩, by rw [hs1]; exact hKt hkpa (hKt (hKt hw2 hkp3) (hKb _ _ _ _ (by omega) hl3 rfl rfl))⟩⟩
      | ret =>
        obtain ⟨hk3, hi3⟩ := hp
        obtain ⟨hr, hl3, hl4, hk4, hkf⟩ := fin (some .ret) W3 hk3
        exact ⟨_, _, hr, hkf, .inr ⟨rfl, .ret, (hIx _).putObj _ hi3 (by omega) hl3 rfl, hl4, hk4⟩⟩
      | exit id =>
        obtain ⟨hk3, hi3⟩ := hp
        obtain ⟨hr, hl3, hl4, hk4, hkf⟩ := fin (some (.exit id)) W3 hk3
        exact ⟨_, _, hr, hkf, .inr ⟨rfl, .exit id, (hIx _).putObj _ hi3 (by omega) hl3 rfl, hl4, hk4⟩⟩
      | goto t =>
        obtain ⟨hk3, hi3⟩ := hp
        obtain ⟨hr, hl3, hl4, hk4, hkf⟩ := fin (some (.goto t)) W3 hk3
        exact ⟨_, _, hr, hkf, .inr ⟨rfl, .goto t, (hIx _).putObj _ hi3 (by omega) hl3 rfl, hl4, hk4⟩⟩
      | panic ch => exact hp.elim
      | outgrown => exact hp.elim
    · rintro e W2 ⟨⟨v, rfl⟩, (⟨xs, hS, hi, hl, hk⟩ | ⟨pre, hSp, c, hi, hl, hk⟩)⟩
      · exact ⟨none, _, by have := run_endLoop (P := P) hl (by rw [hrec]; simp); rw [hrec] at this; exact this, hdone _ xs _ (Nat.le_refl _) hS (hI.putObj _ hi (by omega) hl rfl) ((World.putObj_heap_other (by omega)).trans hk)⟩
      · exact ⟨some c, _, by have := run_endLoop (P := P) hl (by rw [hrec]; simp); rw [hrec] at this; exact this, hstop _ c pre _ (Nat.le_refl _) hSp ((hIx c).putObj _ hi (by omega) hl rfl) ((World.putObj_heap_other (by omega)).trans hk)⟩
end
def cellsI (q : List Nat) : List Value := q.map (fun k : Nat => Value.int .i64 (k : Int))
/-- A box that holds a list of one's own. -/
structure ApI (w0 : World) (g2 base : Nat) (pre : List Nat) (W : World) : Prop where
  row : ∃ v, W.heap[g2]? = some (.cells #[v] 60 (0, 0)) ∧ W.ownsRow base 3 1 v pre.length (cellsI pre)
  bel : Below w0.heap.size w0 W
theorem ownI_one {w : World} {base n : Nat} {v : Value} {xs : List Value} (h : w.ownsRow base 3 1 v n xs) : v.oneCell' = true := by
  rcases h.2 with ⟨rfl, _⟩ | ⟨_, _, _, rfl, _⟩ <;> rfl
theorem owns_kept {w w' : World} {base n : Nat} {v : Value} {xs : List Value} (h : w.ownsRow base 3 1 v n xs) (hk : ∀ k cur, base ≤ k → w.heap[k]? = some (.cells cur 3 (0, 0)) → w'.heap[k]? = some (.cells cur 3 (0, 0))) : w'.ownsRow base 3 1 v n xs := by
  refine ⟨h.1, ?_⟩
  rcases h.2 with h1 | ⟨g, cap, cur, rfl, h2, h3, h4⟩
  · exact .inl h1
  · exact .inr ⟨g, cap, cur, rfl, h2, hk g cur h2 h3, h4⟩
theorem ApI.own {w0 : World} {g2 base B : Nat} {pre : List Nat} {W W' : World} {row : Option Nat} (h : ApI w0 g2 base pre W) (hB : w0.heap.size ≤ B) (hg : W.grownBy W' row) (hr : ∀ r, row = some r → B ≤ r ∧ ∃ o : Obj, W.heap[r]? = some o ∧ o.isCells = false) : ApI w0 g2 base pre W' := by
  have ne : ∀ g xs t, W.heap[g]? = some (.cells xs t (0, 0)) → some g ≠ row := fun g xs t h e => by
    obtain ⟨_, o, ho, hc⟩ := hr g e.symm
    rw [h] at ho
    cases ho
    cases hc
  obtain ⟨v, h1, h2⟩ := h.row
  exact ⟨⟨v, (hg.block g2 (Array.getElem?_eq_some_iff.1 h1).1 (ne _ _ _ h1)).trans h1, owns_kept h2 (fun k cur _ e => (hg.block k (Array.getElem?_eq_some_iff.1 e).1 (ne _ _ _ e)).trans e)⟩, h.bel.grown hg h.bel.size (fun k e => by have := (hr k e).1; omega)⟩
theorem ApI.turn {w0 : World} {g2 base B : Nat} (hB : w0.heap.size ≤ B) (h2 : g2 ≠ B) (hb : B < base) : TurnsAt B (ApI w0 g2 base) := fun pre W W' h hg => by
  obtain ⟨v, h1, h3⟩ := h.row
  exact ⟨⟨v, (hg.block g2 (Array.getElem?_eq_some_iff.1 h1).1 (fun e => h2 (by cases e; rfl))).trans h1, owns_kept h3 (fun k cur hk e => (hg.block k (Array.getElem?_eq_some_iff.1 e).1 (fun e2 => by cases e2; omega)).trans e)⟩, h.bel.grown hg h.bel.size (fun k e => by cases e; omega)⟩
theorem ApI.push {w0 : World} {g2 base : Nat} {pre : List Nat} {W : World} (h : ApI w0 g2 base pre W) (hg : g2 < base) (h0 : w0.heap.size ≤ g2) (hb : base ≤ W.heap.size) (hl : pre.length ≤ 1000000) (z : Nat) :
    ∃ v v' w', W.heap[g2]? = some (.cells #[v] 60 (0, 0)) ∧ (Builtin.append_ #[60, 60] 60 #[v, .slice (some ⟨W.heap.size, 0, none⟩) 1 1]).run Tryd.prog (W.alloc (.cells #[.int .i64 (z : Int)] 3)) = .ok v' w' ∧ w'.heap[g2]? = some (.cells #[v] 60 (0, 0)) ∧ v'.oneCell' = true ∧
      ApI w0 g2 base (pre ++ [z]) (w'.setCell ⟨g2, 0, none⟩ v') ∧ But (fun k => k = g2 ∨ base ≤ k ∧ ∃ cur, W.heap[k]? = some (.cells cur 3 (0, 0))) W (w'.setCell ⟨g2, 0, none⟩ v') := by
  obtain ⟨v, h1, h2⟩ := h.row
  obtain ⟨i, hi, hz, hs, hby⟩ := info3
  have l2 := (Array.getElem?_eq_some_iff.1 h1).1
  have hold : ∀ b, b < W.heap.size → (W.alloc (.cells #[.int .i64 (z : Int)] 3)).heap[b]? = W.heap[b]? := fun b hb => Below.heap_alloc _ _ _ hb
  have ho1 : (W.alloc (.cells #[.int .i64 (z : Int)] 3)).ownsRow base 3 1 v pre.length (cellsI pre) := owns_kept h2 (fun k cur _ e => (hold k (Array.getElem?_eq_some_iff.1 e).1).trans e)
  obtain ⟨v', w', r1, r2, r3, _, r5⟩ := run_append_own_at (P := Tryd.prog) (W.alloc (.cells #[.int .i64 (z : Int)] 3)) base 60 60 3 i (.int .i64 0) 1 8 Tryd.underlying60 hi hz hs hby rfl (by decide) v pre.length (cellsI pre) ho1 ⟨W.heap.size, 0, none⟩ 1 1 [.int .i64 (z : Int)] rfl (fun j u hj => by
    rw [add_plain, Nat.zero_add, cell_of_row _ _ _ _ _ _ (heap_alloc_new W _)]
    simpa using hj) (fun u hu => by rw [List.mem_singleton.1 hu]; rfl) (by unfold maxLen; omega) (by omega) (by simp; omega)
  have hvb : ∀ k, v.ownBlock = some k → base ≤ k ∧ ∃ cur, W.heap[k]? = some (.cells cur 3 (0, 0)) := fun k e => by
    rcases h2.2 with ⟨rfl, _⟩ | ⟨g, cap, cur, rfl, q1, q2, _⟩
    · cases e
    · cases e; exact ⟨q1, cur, q2⟩
  have hnw : ∀ k, k < W.heap.size → v.ownBlock ≠ some k → w'.heap[k]? = W.heap[k]? := fun k hk hn => (r3.block k (by simp; omega) (fun e => hn e.symm)).trans (hold k hk)
  have hv2 : v.ownBlock ≠ some g2 := fun e => by have := (hvb g2 e).1; omega
  have e2 := (hnw g2 l2 hv2).trans h1
  have ot : ∀ k, k ≠ g2 → (w'.setCell ⟨g2, 0, none⟩ v').heap[k]? = w'.heap[k]? := fun k hk => Below.heap_setCell w' ⟨g2, 0, none⟩ _ k hk
  have hsz := r3.size
  simp at hsz
  have hB : But (fun k => k = g2 ∨ base ≤ k ∧ ∃ cur, W.heap[k]? = some (.cells cur 3 (0, 0))) W (w'.setCell ⟨g2, 0, none⟩ v') := ⟨by have := r3.os; exact this, by have := r3.tape; exact this, by have := r3.output; exact this, by simp [World.setCell]; omega, fun k hk hn => by
    rw [ot k (fun e => hn (.inl e))]
    exact hnw k hk (fun e => hn (.inr (hvb k e)))⟩
  refine ⟨v, v', w', h1, r1, e2, ownI_one r2, ⟨⟨v', heap_setCell_same w' g2 0 _ 60 _ e2, ?_⟩, ?_⟩, hB⟩
  · have := owns_kept (w' := w'.setCell ⟨g2, 0, none⟩ v') r2 (fun k cur hk e => (ot k (by omega)).trans e)
    simpa [cellsI] using this
  · exact h.bel.trans (hB.below (by have := h.bel.size; omega) (fun k e => by have := h.bel.size; omega))
set_option maxHeartbeats 4000000 in
set_option maxRecDepth 100000 in
theorem appseq_in (n : Nat) (hn : 3 ≤ n) (gf : Nat) (lb : Array Value) (B0 N : Nat) (hN : N ≤ 100000) (S : List Nat → Prop) (w : World) (hB0 : B0 ≤ w.heap.size) (eg : ∀ args w, (callFunc gf args).run Tryd.prog w = .ok (.enter gf args) w)
    (hseq : SeqP Fence.wide (n - 1) Tryd.prog gf lb encO (fun B => Kc (fun k => B0 ≤ k ∧ k ≠ B)) S (fun _ => True) N w) :
    CallsIn Fence.wide n Tryd.prog 81 #[.slice none 0 0, .func (.func gf) #[] lb] w fun e w' => ∃ v xs, e = .returned v ∧ S xs ∧ w'.ownsRow w.heap.size 3 1 v xs.length (cellsI xs) ∧ Below w.heap.size w w' := by
  have hal := heap_alloc_new w (.cells #[.slice none 0 0] 60)
  have B1 : Below w.heap.size w (w.alloc (.cells #[.slice none 0 0] 60)) := (Below.refl _ w).alloc (Nat.le_refl _) _
  have hs1 : (w.alloc (.cells #[.slice none 0 0] 60)).heap.size = w.heap.size + 1 := by simp
  replace hseq := hide hseq
  have hbx : ∀ (a : Act) (x : Operand) (dst : Option Nat) (ty : TypeId) (pos : String) (after : Array Edge), a.eval x = .slice none 0 0 → (execOp a.eval ⟨dst, .box 60 x, ty, pos, after, none⟩).run Tryd.prog w = .ok (.value (.pointer (some ⟨w.heap.size, 0, none⟩))) (w.alloc (.cells #[.slice none 0 0] 60)) := fun a x dst ty pos after hx => by
    unfold execOp
    simp only [hx]
    kernel_rfl
  refine callsIn_of_wp_marks Tryd.func81 rfl trivial ?_ rfl
  simp only [Tryd.ntmps81, List.size_toArray, List.length_cons, List.length_nil, Nat.reduceAdd, Nat.reduceSub, Array.replicate_succ, Array.replicate_zero, List.push_toArray, List.append_toArray, List.nil_append, List.cons_append]
  gi_wp2_with (first | ((with_reducible refine atI_box 60 ?_); refine wlI_val wide_fn (fun c => nofun) (hbx _ _ _ _ _ _ rfl) ?_))
  generalize hw1 : w.alloc (.cells #[.slice none 0 0] 60) = w1 at *
  replace hw1 := hide hw1
  replace hal := hide hal
  have I0 : ApI w w.heap.size (w1.heap.size + 3) [] w1 := ⟨⟨_, hal.out, rfl, .inl ⟨rfl, rfl⟩⟩, B1⟩
  refine wpIn_rangeP rfl (by omega) (gf := gf) (lb := lb) rfl (wide_fn gf) eg
    hseq.out (fun h k => h.trans k) (fun Wd l o o' hl ho hc _ => ⟨by simp [World.putObj], fun k cs t fr _ e => (World.putObj_heap_other (fun h => by rw [h, ho] at e; cases e; cases hc)).trans e⟩) B1 (fun _ => rfl)
    (fun pr Wd => ApI w w.heap.size (w1.heap.size + 3) pr Wd)
    (fun _ _ _ => False)
    (fun pr Wd Wd' row hs hg hr => hs.own (by omega) hg hr)
    (fun _ _ _ _ _ hs _ _ => hs)
    I0 (ApI.turn (by omega) (by omega) (by omega)) (fun _ _ _ _ hs _ => hs)
    (fun z a' Wd => ∃ u0 u1 u3 u4 u6 u7 u8 u9 u10 u11 u12 : Value, a' = { tmps := #[u0, u1, .pointer (some ⟨w.heap.size, 0, none⟩), u3, u4, .int .i64 (z : Int), u6, u7, u8, u9, u10, u11, u12], defers := [] })
    (fun x a' _ Wd Wd' row hs hg hr => hs) ?assign ?body ?done ?stop
  case assign =>
    intro l pr x Wd K hi hK
    simp only [encO, List.zip_toArray, List.zip_cons_cons, List.zip_nil_left, List.zip_nil_right, List.foldl_toArray, List.foldl_cons, List.foldl_nil, List.setIfInBounds_toArray, List.set_cons_zero, List.set_cons_succ]
    replace hK := hide hK
    replace hi := hide hi
    gi_wp2
    exact hK.out _ Wd ⟨Nat.le_refl _, fun _ _ _ h _ => h⟩ (Kc.refl _ _) hi.out ⟨_, _, _, _, _, _, _, _, _, _, _, rfl⟩
  case body =>
    rintro l pr x a' Wd hl ⟨r, hr⟩ hs ⟨u0, u1, u3, u4, u6, u7, u8, u9, u10, u11, u12, rfl⟩ hlt hsz
    obtain ⟨v, v', wx, e6, hrun, e6', hone, hs', hb'⟩ := hs.push (by omega) (Nat.le_refl _) (by omega) (by omega) x
    have c6 := cell_row e6 0 (v := v) rfl
    have hKF : KeepsFrom w1.heap.size Wd (wx.setCell ⟨w.heap.size, 0, none⟩ v') := ⟨hb'.size, fun k o hk ho hcs => (hb'.block k (Array.getElem?_eq_some_iff.1 ho).1 (fun h => by
      rcases h with h | ⟨_, cur, h⟩
      · omega
      · rw [ho] at h; cases h; cases hcs)).trans ho⟩
    have hKO : Kc (fun k => B0 ≤ k ∧ k ≠ w1.heap.size + 2) Wd (wx.setCell ⟨w.heap.size, 0, none⟩ v') := ⟨hb'.size, fun k cs t fr hX e => (hb'.block k (Array.getElem?_eq_some_iff.1 e).1 (fun h => hX (by
      rcases h with h | ⟨h, _⟩
      · omega
      · omega))).trans e⟩
    replace hs := hide hs
    replace hs' := hide hs'
    replace hb' := hide hb'
    replace hr := hide hr
    replace e6 := hide e6
    gi_wp2_with (first | ((with_reducible refine atI_load 60 ?_); refine wlI_load 60 (round_fn l) rfl (ld60 c6) ?_) | ((with_reducible refine atI_push ?_); refine wlI_push (round_fn l) hrun e6' hone rfl (fun _ => rfl) (fun _ => rfl) (fun _ _ => rfl) (fun _ _ => rfl) ?_; intro u0))
    exact ⟨hKF, hKO, hs'.out⟩
  case done =>
    rintro D xs Wd hD hS hI hK
    obtain ⟨v, e1, e2⟩ := hI.row
    have c6 := cell_row e1 0 (v := v) rfl
    replace e1 := hide e1
    replace e2 := hide e2
    replace hI := hide hI
    replace hK := hide hK
    replace hS := hide hS
    gi_wp2_with (first | ((with_reducible refine atI_load 60 ?_); refine wlI_load 60 wide_fn rfl (ld60 c6) ?_))
    have B77 := grownBy_putObj' Wd D (.deferred none)
    refine ⟨by simp, .inl ⟨_, _, rfl, run_takeDeferred hK.out, ?_⟩⟩
    refine ⟨_, results_tmp rfl _ _ _, v, xs, rfl, hS.out, ?_, ?_⟩
    · have h1 : Wd.ownsRow w.heap.size 3 1 v xs.length (cellsI xs) := by
        refine ⟨e2.out.1, ?_⟩
        rcases e2.out.2 with h | ⟨g, cap, cur, q0, q1, q2⟩
        · exact .inl h
        · exact .inr ⟨g, cap, cur, q0, by omega, q2⟩
      exact owns_kept h1 (fun k cur _ e => (B77.block k (Array.getElem?_eq_some_iff.1 e).1 (fun h => by cases h; rw [hK.out] at e; cases e)).trans e)
    · exact hI.out.bel.grown B77 hI.out.bel.size (fun k e => by cases e; omega)
  case stop => rintro D cc pr Wd hD hS h; exact h.elim
set_option maxHeartbeats 400000 in
theorem collect_any (gf : Nat) (lb : Array Value) (B0 N : Nat) (hN : N ≤ 100000) (S : List Nat → Prop) (w : World) (hB0 : B0 ≤ w.heap.size) (eg : ∀ args w, (callFunc gf args).run Tryd.prog w = .ok (.enter gf args) w)
    (hseq : SeqP Fence.wide (8 - 1) Tryd.prog gf lb encO (fun B => Kc (fun k => B0 ≤ k ∧ k ≠ B)) S (fun _ => True) N w) :
    Calls Tryd.prog 49 #[.func (.func gf) #[] lb] w fun e w' => ∃ v xs, e = .returned v ∧ S xs ∧ w'.ownsRow w.heap.size 3 1 v xs.length (cellsI xs) ∧ Below w.heap.size w w' := by
  have H := hide (callsIn_wide.1 (appseq_in 8 (by omega) gf lb B0 N hN S w hB0 eg hseq))
  clear hseq
  go_enter Tryd.func49, Tryd.ntmps49
  go_wp2_with fail
  refine H.out.mono ?_
  rintro e w1 ⟨v, xs, rfl, hS, ho, B⟩
  replace ho := hide ho
  replace hS := hide hS
  go_wp2_with fail
  go_ret
  exact ⟨v, xs, rfl, hS.out, ho.out, B⟩
end Go.Proofs.YthgdfgkjaepchaaDoor
namespace Go.Proofs.YthgdfgkjaepchaaDoor
open Go.RowKit Go.Shelf
set_option linter.unusedVariables false
set_option linter.unusedSimpArgs false
attribute [local go_sem] Oper.semAt_some

/-- Is k a place up to which what is read from fr on is accepted? -/
def plc (L : List Ins) (s : ByteArray) (fr k : Nat) : Prop := fr ≤ k ∧ accS L (stn L (((bys s).drop fr).take (k - fr)))
open Classical in
/-- All such places below k. -/
noncomputable def eL (L : List Ins) (s : ByteArray) (fr k : Nat) : List Nat := (List.range k).filter (fun j => decide (plc L s fr j))
theorem eL_succ_yes {L : List Ins} {s : ByteArray} {fr k : Nat} (h : plc L s fr k) : eL L s fr (k + 1) = eL L s fr k ++ [k] := by
  unfold eL
  rw [List.range_succ, List.filter_append]
  simp [h]
theorem eL_succ_no {L : List Ins} {s : ByteArray} {fr k : Nat} (h : ¬ plc L s fr k) : eL L s fr (k + 1) = eL L s fr k := by
  unfold eL
  rw [List.range_succ, List.filter_append]
  simp [h]
theorem eL_le (L : List Ins) (s : ByteArray) (fr k : Nat) : (eL L s fr k).length ≤ k := by
  unfold eL
  have := List.length_filter_le (fun j => @decide (plc L s fr j) (Classical.propDecidable _)) (List.range k)
  simpa using this
theorem eL_fr (L : List Ins) (s : ByteArray) (fr : Nat) : ∀ k, k ≤ fr → eL L s fr k = []
  | 0, _ => rfl
  | k + 1, h => by rw [eL_succ_no (fun hp => by have := hp.1; omega), eL_fr L s fr k (by omega)]
theorem eL_more {L : List Ins} {s : ByteArray} {fr k : Nat} (h : ∀ j, k ≤ j → ¬ plc L s fr j) : ∀ d, eL L s fr (k + d) = eL L s fr k
  | 0 => rfl
  | d + 1 => by rw [← Nat.add_assoc, eL_succ_no (h _ (by omega)), eL_more h d]
theorem eL_dead {L : List Ins} {s : ByteArray} {fr k : Nat} (hk : k + 1 ≤ s.size) (hf : fr ≤ k) (hn : ∀ m, ¬ stn L (((bys s).drop fr).take (k + 1 - fr)) m) : eL L s fr (k + 1) = eL L s fr (s.size + 1) := by
  have := eL_more (L := L) (s := s) (fr := fr) (k := k + 1) (fun j hj hp => by
    obtain ⟨i, _, h1, _⟩ := hp.2
    have e : ((bys s).drop fr).take (j - fr) = ((bys s).drop fr).take (k + 1 - fr) ++ (((bys s).drop fr).drop (k + 1 - fr)).take (j - (k + 1)) := by
      rw [← List.take_add, show k + 1 - fr + (j - (k + 1)) = j - fr by omega]
    rw [e] at h1
    exact stn_dead _ _ hn i h1) (s.size + 1 - (k + 1))
  rw [show k + 1 + (s.size + 1 - (k + 1)) = s.size + 1 by omega] at this
  exact this.symm
set_option maxHeartbeats 1000000 in
theorem begin_at (ad : Option Addr) (c : Nat) (L : List Ins) (w : World) (hL : HsI w (fun k => k < w.heap.size) ad L) (hG : GoL L) (hlen : L.length ≤ 2048) (h0 : 0 < L.length) :
    Calls Tryd.prog 31 #[.slice ad L.length c] w fun e w' => ∃ W, e = .returned (.pointer (some ⟨w.heap.size, 0, none⟩)) ∧ Below w.heap.size w w' ∧ OkW W ∧ (∀ m, inW W m = true ↔ Eps L 0 m) ∧ Rn w' w.heap.size ad L.length c W := by
  have hnew := heap_alloc_new w (.cells (pA #[.slice ad L.length c] noW) 103)
  have hB1 : Hid (Below w.heap.size w (w.alloc (.cells (pA #[.slice ad L.length c] noW) 103))) := (Below.refl _ w).alloc (Nat.le_refl _) _
  have hst := hide (callsIn_wide.1 (stand_in 5 (by omega) ad c L 0 w.heap.size #[.slice ad L.length c] 103 noW (w.alloc (.cells (pA #[.slice ad L.length c] noW) 103)) (hL.kept (fun k _ hk => hB1.out.block k hk) (fun k hk h => ⟨by simp; omega, by omega⟩)) hG hlen h0 OkW.no (fun i q h => by have := inW_no i; unfold snW at h; rw [this] at h; cases h) hnew))
  replace hL := hide hL
  generalize hln : L.length = n at *
  go_enter Tryd.func31, Tryd.ntmps31
  go_wp2_with (first | ((with_reducible refine at_build' 103 _ ?_); refine wl_val (run_build103 _ _ _ _ _ _ _ rfl) ?_) | ((with_reducible refine at_box 103 ?_); refine wl_val (run_box103 _ _ _ _ _ _ _ rfl) ?_))
  refine hst.out.mono ?_
  rintro e w2 ⟨⟨v, rfl⟩, hb, W, hW, hin, hg⟩
  replace hin := hide hin
  go_wp2_with fail
  go_ret
  refine ⟨W, rfl, hB1.out.trans (hb.below (by simp) (fun k e => by omega)), hW, fun m => ?_, hg⟩
  have := hin.out m
  rw [inW_no] at this
  simpa using this
set_option maxHeartbeats 8000000 in
set_option maxRecDepth 100000 in
theorem ends_stops (n : Nat) (gl gf gs : Nat) (ad : Option Addr) (c : Nat) (L : List Ins) (s : ByteArray) (fr : Nat) (w : World) (hl : w.heap[gl]? = some (.cells #[.slice ad L.length c] 29 (0, 0))) (hf : w.heap[gf]? = some (.cells #[.int .i64 (fr : Int)] 3 (0, 0))) (hs : w.heap[gs]? = some (.cells #[.string s] 9 (0, 0)))
    (hL : HsI w (fun k => k < w.heap.size) ad L) (hT : Tab w) (hG : GoL L) (hok : ∀ q ∈ L, OkS q.s) (h0 : 0 < L.length) (hlen : L.length ≤ 2048) (hsl : s.size ≤ 65536) (hfr : fr ≤ s.size) :
    SeqP Fence.wide n Tryd.prog 82 #[.pointer (some ⟨gl, 0, none⟩), .pointer (some ⟨gf, 0, none⟩), .pointer (some ⟨gs, 0, none⟩)] encO (fun B => Kc (fun k => w.heap.size ≤ k ∧ k ≠ B)) (fun xs => xs = eL L s fr (s.size + 1)) (fun _ => True) (s.size + 2) w := fun l J Jx V hV hJ hJx hJt hJxt hYY hJ0 => by
  have hs0 := hV.size
  have ll := (Array.getElem?_eq_some_iff.1 hl).1
  have lf := (Array.getElem?_eq_some_iff.1 hf).1
  have ls := (Array.getElem?_eq_some_iff.1 hs).1
  have cl := cell_row ((hV.block gl ll).trans hl) 0 (v := .slice ad L.length c) rfl
  have cf := cell_row ((hV.block gf lf).trans hf) 0 (v := .int .i64 (fr : Int)) rfl
  have hsV : Hid (V.heap[gs]? = some (.cells #[.string s] 9 (0, 0))) := (hV.block gs ls).trans hs
  have hTV : Hid (Tab V) := hT.below hV
  have hLV : Hid (HsI V (fun k => k < w.heap.size) ad L) := hL.kept (fun k _ hk => hV.block k hk) (fun k _ h => h)
  replace hYY := hide hYY
  replace hJ := hide hJ
  replace hJx := hide hJx
  replace hJt := hide hJt
  replace hJxt := hide hJxt
  replace hJ0 := hide hJ0
  replace hok := hide hok
  replace hG := hide hG
  have hpos := hT.pos
  clear hl hf hs hL hT hV
  have hbg := hide (begin_at ad c L V (hLV.out.kept (fun _ _ _ => rfl) (fun k hk h => hk)) hG.out hlen h0)
  show CallsIn Fence.wide n Tryd.prog 82 #[.func (.yield l) #[] #[], .pointer (some ⟨gl, 0, none⟩), .pointer (some ⟨gf, 0, none⟩), .pointer (some ⟨gs, 0, none⟩)] V _
  refine callsIn_of_wp Tryd.func82 rfl trivial ?_ rfl
  simp only [Tryd.ntmps82, List.size_toArray, List.length_cons, List.length_nil, Nat.reduceAdd, Nat.reduceSub, Array.replicate_succ, Array.replicate_zero, List.push_toArray, List.append_toArray, List.nil_append, List.cons_append]
  gi_wp2_with (first | ((with_reducible refine atI_load 29 ?_); refine wlI_load 29 wide_fn rfl (ld29 cl) ?_))
  refine ⟨trivial, fun h => (by cases h), (callsIn_wide.2 hbg.out).mono ?_⟩
  rintro e w1 ⟨W0, rfl, B1, hW0, hst0, hR0⟩
  have cf1 := (B1.cell (p := ⟨gf, 0, none⟩) (by show gf < V.heap.size; omega)).trans cf
  have R0 : Hid (RnS L V.heap.size ad c (((bys s).drop fr).take (fr - fr)) W0 w1) := ⟨hW0, by rw [Nat.sub_self]; exact hst0, hR0⟩
  have J1 : Hid (J [] w1) := own_below hJ.out hJ0.out B1
  have k1 : Hid (Kc (fun k => w.heap.size ≤ k) V w1) := Kc.below B1 (Nat.le_refl _)
  have sz1 : Hid (V.heap.size < w1.heap.size) := hR0.lt
  have x1 : Hid ([] = eL L s fr fr) := (eL_fr L s fr fr (Nat.le_refl _)).symm
  clear hst0 hR0 hW0 B1 cl cf
  gi_wp2_with (first | ((with_reducible refine atI_load 3 ?_); refine wlI_load 3 wide_fn rfl (ld3 cf1) ?_))
  clear cf1
  gi_loopw [6] (fun v wr => ∃ (k : Nat) (Wr : List Nat) (xs : List Nat), v = .int .i64 ((k : Nat) : Int) ∧ fr ≤ k ∧ k ≤ s.size ∧ Hid (RnS L V.heap.size ad c (((bys s).drop fr).take (k - fr)) Wr wr) ∧ Hid (xs = eL L s fr k) ∧ Hid (J xs wr) ∧ Hid (Kc (fun k => w.heap.size ≤ k) V wr) ∧ Hid (V.heap.size < wr.heap.size)) (fun v _ => s.size - (intOf v).toNat)
  case atStart => exact ⟨fr, W0, [], rfl, Nat.le_refl _, hfr, R0, x1, J1, k1, sz1⟩
  case round =>
    obtain ⟨k, Wr, xs, rfl, hfk, hk, hR, hx, hJr, hkr, hszr⟩ := hrel
    have hLr : HsI wr (fun k => k < w.heap.size) ad L := hLV.out.kc hkr.out (fun k h => by omega)
    have hin : Hid (∀ i, inW Wr i = true → i < L.length) := fun i hi => stn_lt hG.out h0 _ i ((hR.out.st i).1 hi)
    have hTr : Tab wr := hTV.out.kc hkr.out (by omega)
    have hsz := hkr.out.1
    have hacc := hide (callsIn_wide.1 (acc_in 5 (by omega) V.heap.size ad c L Wr hR.out.ok wr hR.out.rn (hLr.kept (fun _ _ _ => rfl) (fun k hk h => hk)) hin.out hTr h0))
    have hxb : accB L Wr = true ↔ plc L s fr k := by
      rw [accB_iff hR.out.ok]
      exact (accS_congr (fun m => hR.out.st m)).trans ⟨fun h => ⟨hfk, h⟩, fun h => h.2⟩
    generalize accB L Wr = xb at hacc hxb
    replace hxb := hide hxb
    gi_wp2
    refine ⟨trivial, fun h => (by cases h), (callsIn_wide.2 hacc.out).mono ?_⟩
    rintro e w4 ⟨rfl, B4⟩
    have hJ4 : Hid (J xs w4) := own_below hJ.out hJr.out B4
    have hk4 : Hid (Kc (fun k => w.heap.size ≤ k) V w4) := hkr.out.trans (Kc.below B4 (Nat.le_refl _))
    have hR4 : Hid (RnS L V.heap.size ad c (((bys s).drop fr).take (k - fr)) Wr w4) := ⟨hR.out.ok, hR.out.st, hR.out.rn.kept (B4.block _ hszr.out)⟩
    have hsz4 : Hid (V.heap.size < w4.heap.size) := Nat.lt_of_lt_of_le hszr.out B4.size
    clear hLr hTr hacc
    replace B4 := hide B4
    cases xb with
    | true =>
      have hp := hxb.out.1 rfl
      have hx2 : Hid (xs ++ [k] = eL L s fr (k + 1)) := by
        have := hx.out
        show _ = _
        rw [eL_succ_yes hp, ← this]
      have hxl : xs.length < s.size + 2 := by
        have := eL_le L s fr k
        rw [← hx.out] at this
        omega
      obtain ⟨fn, tmps, assign, body, hy, hR5⟩ := hYY.out xs k w4 hJ4.out hxl hsz4.out
      simp only [encO] at hy
      replace hp := hide hp
      gi_wp2
      refine ⟨fun h => (by cases h), hR5.mono ?_⟩
      clear hy hR5
      rintro e WW ⟨kf, (⟨rfl, hJ2, kp⟩ | ⟨rfl, hJx2⟩)⟩
      · obtain ⟨XS, hXS⟩ : ∃ XS, XS = xs ++ [k] := ⟨_, rfl⟩
        rw [← hXS] at hJ2 hx2
        replace hXS := hide hXS
        have kp2 : Kc (fun k => w.heap.size ≤ k) w4 WW := ⟨kp.1, fun j cs t f hj e => kp.2 j cs t f (fun h => hj h.1) e⟩
        have hk2 : Hid (Kc (fun k => w.heap.size ≤ k) V WW) := hk4.out.trans kp2
        have hR2 : Hid (RnS L V.heap.size ad c (((bys s).drop fr).take (k - fr)) Wr WW) := ⟨hR4.out.ok, hR4.out.st, kp.2 _ _ _ _ (fun h => h.2 rfl) hR4.out.rn⟩
        have hsz2 : Hid (V.heap.size < WW.heap.size) := Nat.lt_of_lt_of_le hsz4.out kp.1
        have hL2 : Hid (HsI WW (fun k => k < WW.heap.size ∧ k ≠ V.heap.size) ad L) := (hLV.out.kc hk2.out (fun k h => by omega)).kept (fun _ _ _ => rfl) (fun k hk h => ⟨hk, by omega⟩)
        have hT2 : Hid (Tab WW) := hTV.out.kc hk2.out (by omega)
        have c9 := cell_row (hk2.out.2 gs _ _ _ (by omega) hsV.out) 0 (v := .string s) rfl
        replace hJ2 := hide hJ2
        clear kf kp kp2
        by_cases hend : k = s.size
        · subst hend
          have i3 : (((s.size : Nat) : Int) == (s.size : Int)) = true := by simp
          gi_wp2_with (first | ((with_reducible refine atI_load 9 ?_); refine wlI_load 9 wide_fn rfl (ld9 c9) ?_))
          refine ⟨by first | exact wide_fn _ | exact fun f _ => wide_fn f, ?_⟩
          first | (rename_i hKK; refine hKK _ _ ?_) | (rename_i hKK x1 x2 x3; refine hKK _ _ ?_) | (rename_i hKK x1 x2 x3 x4; refine hKK _ _ ?_) | (rename_i hKK x1 x2 x3 x4 x5; refine hKK _ _ ?_) | (rename_i hKK x1 x2; refine hKK _ _ ?_)
          gi_wp2
          refine bodyPost_ret (results_none rfl _ _ _) rfl ?_
          exact ⟨⟨_, rfl⟩, .inl ⟨_, hx2.out, hJ2.out⟩⟩
        · have hlt : k < s.size := by omega
          have i3 : ((k : Int) == (s.size : Int)) = false := by simp; omega
          have i4 : (k : Int) < (s.size : Int) := by omega
          have i5 : ¬ ((s.size : Int) ≤ (k : Int)) := by omega
          have b0 := bt_eq hlt
          have hbr := bt_range s k
          obtain ⟨b, hb⟩ : ∃ b : Nat, bt s k = (b : Int) := ⟨(bt s k).toNat, by omega⟩
          have hb2 : b < 256 := by omega
          have htk : ((bys s).drop fr).take (k + 1 - fr) = ((bys s).drop fr).take (k - fr) ++ [b] := by
            rw [show k + 1 - fr = (k - fr) + 1 by omega, List.take_add_one, List.getElem?_drop, show fr + (k - fr) = k by omega, bys_at hlt, hb]
            rfl
          rw [hb] at b0
          have hfeed := hide (callsIn_wide.1 (feed_in 6 (by omega) V.heap.size ad c L Wr hR2.out.ok b hb2 WW hR2.out.rn hL2.out hin.out hT2.out h0 hlen hG.out hok.out))
          replace htk := hide htk
          replace hb := hide hb
          clear hbr
          have hltH := hide hlt
          replace hend := hide hend
          gi_wp2_with (first | ((with_reducible refine atI_load 9 ?_); refine wlI_load 9 wide_fn rfl (ld9 c9) ?_))
          refine ⟨trivial, fun h => (by cases h), (callsIn_wide.2 hfeed.out).mono ?_⟩
          rintro e w9 ⟨V9, rfl, hV9, hst9, hR9, hb9⟩
          have hS9 : RnS L V.heap.size ad c (((bys s).drop fr).take (k + 1 - fr)) V9 w9 := ⟨hV9, fun m => by
            rw [hst9 m, htk.out, stn_snoc]
            exact nxt_congr (fun i => hR2.out.st i) b m, hR9⟩
          have hg9 : WW.grownBy w9 (some V.heap.size) := ⟨hb9.os, hb9.tape, hb9.output, hb9.size, fun k hk hn => hb9.block k hk (fun e => hn (by rw [e]))⟩
          have hJ9 : Hid (J XS w9) := hJt.out _ _ _ hJ2.out hg9
          have hk9 : Hid (Kc (fun k => w.heap.size ≤ k) V w9) := hk2.out.trans ⟨hb9.size, fun k cs t fr hX e => (hb9.block k (Array.getElem?_eq_some_iff.1 e).1 (fun h => hX (by rw [h]; exact hs0))).trans e⟩
          by_cases hd : V9 = noW
          · have hdd : decide (V9 = noW) = true := by simp [hd]
            rw [hdd]
            have hno : XS = eL L s fr (s.size + 1) := by
              rw [hx2.out]
              have hn : ∀ m, ¬ stn L (((bys s).drop fr).take (k + 1 - fr)) m := fun m h => by
                have := (hS9.st m).2 h
                rw [hd, inW_no] at this
                cases this
              exact eL_dead (by have := hltH.out; omega) hfk hn
            replace hno := hide hno
            replace hS9 := hide hS9
            clear hst9 hR9 hb9 hd hg9
            gi_wp2
            refine bodyPost_ret (results_none rfl _ _ _) rfl ?_
            exact ⟨⟨_, rfl⟩, .inl ⟨_, hno.out, hJ9.out⟩⟩
          · have hdd : decide (V9 = noW) = false := by simp [hd]
            rw [hdd]
            replace hS9 := hide hS9
            have hsz9 : Hid (V.heap.size < w9.heap.size) := Nat.lt_of_lt_of_le hsz2.out hb9.size
            clear hst9 hR9 hb9 hd hg9
            gi_wp2
            go_roundw
            case rel => exact ⟨k + 1, V9, XS, by go_num, by omega, hltH.out, hS9, hx2, hJ9, hk9, hsz9⟩
            case measure => have := hltH.out; simp [intOf]; omega

      · replace hJx2 := hide hJx2
        clear kf
        gi_wp2
        refine bodyPost_ret (results_none rfl _ _ _) rfl ?_
        exact ⟨⟨_, rfl⟩, .inr ⟨_, trivial, hJx2.out⟩⟩
    | false =>
      have hp : ¬ plc L s fr k := fun h => by have := hxb.out.2 h; cases this
      obtain ⟨XS, hXS⟩ : ∃ XS, XS = xs := ⟨_, rfl⟩
      have hx2 : Hid (XS = eL L s fr (k + 1)) := by
        have := hx.out
        show _ = _
        rw [eL_succ_no hp, ← this, hXS]
      have hJ2 : Hid (J XS w4) := by rw [hXS]; exact hJ4
      replace hXS := hide hXS
      replace hp := hide hp
      have hL2 : Hid (HsI w4 (fun k => k < w4.heap.size ∧ k ≠ V.heap.size) ad L) := (hLV.out.kc hk4.out (fun k h => by omega)).kept (fun _ _ _ => rfl) (fun k hk h => ⟨hk, by omega⟩)
      have hT2 : Hid (Tab w4) := hTV.out.kc hk4.out (by omega)
      have c9 := cell_row (hk4.out.2 gs _ _ _ (by omega) hsV.out) 0 (v := .string s) rfl
      obtain ⟨WW, hWW⟩ : ∃ WW, WW = w4 := ⟨_, rfl⟩
      subst hWW
      have hk2 := hk4
      have hR2 := hR4
      have hsz2 := hsz4
      clear hk4 hR4 hsz4
      gi_wp2
      refine ⟨fun f _ => wide_fn f, ?_⟩
      first | (rename_i hKK; refine hKK _ _ ?_) | (rename_i hKK x1 x2 x3; refine hKK _ _ ?_) | (rename_i hKK x1 x2 x3 x4; refine hKK _ _ ?_) | (rename_i hKK x1 x2 x3 x4 x5; refine hKK _ _ ?_) | (rename_i hKK x1 x2; refine hKK _ _ ?_)
      by_cases hend : k = s.size
      · subst hend
        have i3 : (((s.size : Nat) : Int) == (s.size : Int)) = true := by simp
        gi_wp2_with (first | ((with_reducible refine atI_load 9 ?_); refine wlI_load 9 wide_fn rfl (ld9 c9) ?_))
        refine ⟨by first | exact wide_fn _ | exact fun f _ => wide_fn f, ?_⟩
        first | (rename_i hKK; refine hKK _ _ ?_) | (rename_i hKK x1 x2 x3; refine hKK _ _ ?_) | (rename_i hKK x1 x2 x3 x4; refine hKK _ _ ?_) | (rename_i hKK x1 x2 x3 x4 x5; refine hKK _ _ ?_) | (rename_i hKK x1 x2; refine hKK _ _ ?_)
        gi_wp2
        refine bodyPost_ret (results_none rfl _ _ _) rfl ?_
        exact ⟨⟨_, rfl⟩, .inl ⟨_, hx2.out, hJ2.out⟩⟩
      · have hlt : k < s.size := by omega
        have i3 : ((k : Int) == (s.size : Int)) = false := by simp; omega
        have i4 : (k : Int) < (s.size : Int) := by omega
        have i5 : ¬ ((s.size : Int) ≤ (k : Int)) := by omega
        have b0 := bt_eq hlt
        have hbr := bt_range s k
        obtain ⟨b, hb⟩ : ∃ b : Nat, bt s k = (b : Int) := ⟨(bt s k).toNat, by omega⟩
        have hb2 : b < 256 := by omega
        have htk : ((bys s).drop fr).take (k + 1 - fr) = ((bys s).drop fr).take (k - fr) ++ [b] := by
          rw [show k + 1 - fr = (k - fr) + 1 by omega, List.take_add_one, List.getElem?_drop, show fr + (k - fr) = k by omega, bys_at hlt, hb]
          rfl
        rw [hb] at b0
        have hfeed := hide (callsIn_wide.1 (feed_in 6 (by omega) V.heap.size ad c L Wr hR2.out.ok b hb2 WW hR2.out.rn hL2.out hin.out hT2.out h0 hlen hG.out hok.out))
        replace htk := hide htk
        replace hb := hide hb
        clear hbr
        have hltH := hide hlt
        replace hend := hide hend
        gi_wp2_with (first | ((with_reducible refine atI_load 9 ?_); refine wlI_load 9 wide_fn rfl (ld9 c9) ?_))
        refine ⟨trivial, fun h => (by cases h), (callsIn_wide.2 hfeed.out).mono ?_⟩
        rintro e w9 ⟨V9, rfl, hV9, hst9, hR9, hb9⟩
        have hS9 : RnS L V.heap.size ad c (((bys s).drop fr).take (k + 1 - fr)) V9 w9 := ⟨hV9, fun m => by
          rw [hst9 m, htk.out, stn_snoc]
          exact nxt_congr (fun i => hR2.out.st i) b m, hR9⟩
        have hg9 : WW.grownBy w9 (some V.heap.size) := ⟨hb9.os, hb9.tape, hb9.output, hb9.size, fun k hk hn => hb9.block k hk (fun e => hn (by rw [e]))⟩
        have hJ9 : Hid (J XS w9) := hJt.out _ _ _ hJ2.out hg9
        have hk9 : Hid (Kc (fun k => w.heap.size ≤ k) V w9) := hk2.out.trans ⟨hb9.size, fun k cs t fr hX e => (hb9.block k (Array.getElem?_eq_some_iff.1 e).1 (fun h => hX (by rw [h]; exact hs0))).trans e⟩
        by_cases hd : V9 = noW
        · have hdd : decide (V9 = noW) = true := by simp [hd]
          rw [hdd]
          have hno : XS = eL L s fr (s.size + 1) := by
            rw [hx2.out]
            have hn : ∀ m, ¬ stn L (((bys s).drop fr).take (k + 1 - fr)) m := fun m h => by
              have := (hS9.st m).2 h
              rw [hd, inW_no] at this
              cases this
            exact eL_dead (by have := hltH.out; omega) hfk hn
          replace hno := hide hno
          replace hS9 := hide hS9
          clear hst9 hR9 hb9 hd hg9
          gi_wp2
          refine bodyPost_ret (results_none rfl _ _ _) rfl ?_
          exact ⟨⟨_, rfl⟩, .inl ⟨_, hno.out, hJ9.out⟩⟩
        · have hdd : decide (V9 = noW) = false := by simp [hd]
          rw [hdd]
          replace hS9 := hide hS9
          have hsz9 : Hid (V.heap.size < w9.heap.size) := Nat.lt_of_lt_of_le hsz2.out hb9.size
          clear hst9 hR9 hb9 hd hg9
          gi_wp2
          go_roundw
          case rel => exact ⟨k + 1, V9, XS, by go_num, by omega, hltH.out, hS9, hx2, hJ9, hk9, hsz9⟩
          case measure => have := hltH.out; simp [intOf]; omega

end Go.Proofs.YthgdfgkjaepchaaDoor
