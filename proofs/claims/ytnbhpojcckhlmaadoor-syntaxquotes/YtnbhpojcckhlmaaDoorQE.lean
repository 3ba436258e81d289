/-
  isExact of a pattern that is bytes, one or in a row.
-/
import Derived.Test.YtnbhpojcckhlmaaDoorQD
import Derived.Test.YtnbhpojcckhlmaaDoorAA
namespace Go.Proofs.YtnbhpojcckhlmaaDoor
open Go.RowKit Go.Shelf
set_option linter.unusedVariables false
set_option linter.unusedSimpArgs false
attribute [local go_sem] Oper.semAt_some

section
variable {F : Fence} {n : Nat} {w w' : World} {ops : Array Oper} {rest : List Oper} {a : Act} {Q : Exit → Act → World → Prop} {dst : Option Nat} {x y : Operand} {ty : TypeId} {pos : String} {after : Array Edge}
theorem run_st4 {w : World} {g : Nat} {u : Value} {v : Bool} (h : w.heap[g]? = some (.cells #[u] 4 (0, 0))) : (storeVar 4 ⟨g, 0, none⟩ (.bool v)).run Tryd.prog w = .ok () (w.setCell ⟨g, 0, none⟩ (.bool v)) := by
  have hc := cell_row h 0 (v := u) rfl
  have hf := frozen_of_row w g 0 _ 4 h
  have e : (storeCells ⟨g, 0, none⟩ [.bool v]).run Tryd.prog w = .ok () (w.setCell ⟨g, 0, none⟩ (.bool v)) := by simp [storeCells, go_sem, stored, hc, hf]
  have e4 : (Value.bool v).cells = #[.bool v] := rfl
  unfold storeVar
  simp only [Sem.run_bind, one4, Result.andThen_ok, e4]
  simpa using e
theorem wlI_st4 (hF : ∀ f, F.fn f) {g : Nat} {u : Value} {v : Bool} (hg : w.heap[g]? = some (.cells #[u] 4 (0, 0))) (hx : a.eval x = .pointer (some ⟨g, 0, none⟩)) (hy : a.eval y = .bool v) (h : ∀ w', w'.heap[g]? = some (.cells #[.bool v] 4 (0, 0)) → But (fun k => k = g) w w' → wpListIn F n Tryd.prog ops Q rest a w') : wpListIn F n Tryd.prog ops Q (⟨none, .store 4 x y, ty, pos, after, none⟩ :: rest) a w := by
  refine wlI_skip (w' := w.setCell ⟨g, 0, none⟩ (.bool v)) hF (fun c => nofun) ?_ (h _ ?_ ?_)
  · unfold execOp
    simp only [hx, hy, Instr.storeAt, Instr.sureAddr, Sem.run_bind, Sem.run_pure, Result.andThen_ok, run_st4 hg]
  · exact heap_setCell_same w g 0 _ 4 _ hg
  · exact ⟨rfl, rfl, rfl, by simp [World.setCell], fun k hk hn => Below.heap_setCell w ⟨g, 0, none⟩ _ k hn⟩
variable {S : Nat → Prop} {w0 : World} {L : List Ent}
theorem wlS_alloc4 (hF : ∀ f, F.fn f) (H : St S w0 w L) (h : ∀ g w', St S w0 w' ((true, g, 4, #[.bool false]) :: L) → w0.heap.size ≤ g → wpListIn F n Tryd.prog ops Q rest (a.put dst (.pointer (some ⟨g, 0, none⟩))) w') : wpListIn F n Tryd.prog ops Q (⟨dst, .alloc 4, ty, pos, after, none⟩ :: rest) a w :=
  wlI_val hF (fun c => nofun) (run_alloc4 w) (h _ _ (H.alloc 4 _) H.but.size)
end
/-- What is asked of each one. -/
def PrE (d : Nat) (n : Nd) (len : Nat) : Prop := (n.k = 1 ∧ (∃ c, n.s = sg c) ∨ n.k = 2 ∧ n.s = noSet) ∧ n.mn = 0 ∧ n.mx = 0
theorem allE : ∀ (l : List UInt8) (d : Nat), AllF PrE d (lvs l)
  | [], _ => trivial
  | c :: l, d => ⟨⟨.inl ⟨rfl, c, rfl⟩, rfl, rfl⟩, trivial, allE l d⟩
theorem only_no : only noSet = none := by decide +kernel
theorem sg_ok (c : UInt8) : OkS (sg c) := span_ok _ _ (by have := u8_lt c; omega) (by have := u8_lt c; omega)
/-- Between the rounds: the result's box, and nothing old has turned. -/
structure ExI (w0 : World) (gr : Nat) (W : World) : Prop where
  r : W.heap[gr]? = some (.cells #[.bool false] 4 (0, 0))
  bel : Below w0.heap.size w0 W
theorem ExI.own {w0 : World} {gr B : Nat} {W W' : World} {row : Option Nat} (h : ExI w0 gr W) (hB : w0.heap.size ≤ B) (hg : W.grownBy W' row) (hr : ∀ r, row = some r → B ≤ r ∧ ∃ o : Obj, W.heap[r]? = some o ∧ o.isCells = false) : ExI w0 gr W' := by
  have ne : ∀ g xs t, W.heap[g]? = some (.cells xs t (0, 0)) → some g ≠ row := fun g xs t h e => by
    obtain ⟨_, o, ho, hc⟩ := hr g e.symm
    rw [h] at ho
    cases ho
    cases hc
  refine ⟨(hg.block gr (Array.getElem?_eq_some_iff.1 h.r).1 (ne _ _ _ h.r)).trans h.r, h.bel.grown hg h.bel.size (fun k e => by have := (hr k e).1; omega)⟩
/-- The set of a pattern in a row of cells. -/
theorem load25f {w : World} {g : Nat} {k : Int} {s : S4} {v : Value} {mn mx : Int} (h : w.heap[g]? = some (.cells (reA k s v mn mx) 28 (0, 0))) : (loadVar 25 ⟨g, 1, none⟩).run Tryd.prog w = .ok (setV s) w := by
  refine load25c (fun q hq => cell_row h (1 + q) ?_)
  rcases (show q = 0 ∨ q = 1 ∨ q = 2 ∨ q = 3 by omega) with rfl | rfl | rfl | rfl <;> rfl
set_option maxHeartbeats 8000000 in
set_option maxRecDepth 100000 in
theorem exact_in (n : Nat) (hn : 3 ≤ n) (t : Tr) (P : Nat → Prop) (x : Value) (w : World) (hT : Tab w) (T : TrV w P x t) (hPr : Hid (PrE 1 t.1 t.2.len)) (hA : Hid (AllF PrE 2 t.2)) (hsz : szT t ≤ 4096) :
    CallsIn Fence.wide n Tryd.prog 20 #[x] w fun e w' => e = .returned (.bool true) ∧ Below w.heap.size w w' := by
  obtain ⟨v, zs, rfl, ho, hp, hk⟩ := T
  obtain ⟨va, vc, hv, _, _⟩ := owns8_val ho
  subst hv
  obtain ⟨nd, kids⟩ := t
  simp only at *
  have hold : Hid (Kd w (fun b => b < w.heap.size) kids zs) := hk.mono (fun b hb _ => hb)
  have hown : Hid (∀ b, (Value.slice va kids.len vc).ownBlock = some b → b < w.heap.size) := fun b hb => (owns8_lt ho hb).2
  replace hT := hide hT
  replace ho := hide ho
  clear hk hp
  have H := St.start Nope w
  refine callsIn_of_wp_marks Tryd.func20 rfl trivial ?_ rfl
  simp only [Tryd.ntmps20, List.size_toArray, List.length_cons, List.length_nil, Nat.reduceAdd, Nat.reduceSub, Array.replicate_succ, Array.replicate_zero, List.push_toArray, List.append_toArray, List.nil_append, List.cons_append]
  gi_wp2_with (first | ((with_reducible refine atI_box 28 ?_); refine wlS_box28 wide_fn H rfl ?_; clear H; intro g1 w1 H hg1) | ((with_reducible refine atI_alloc 4 ?_); refine wlS_alloc4 wide_fn H ?_; clear H; intro gr w2 H hgr) | ((with_reducible refine atI_load 28 ?_); refine wlS_load28 1 wide_fn H rfl rfl ?_))
  have hlr3 := H.lti 0 rfl
  refine ⟨trivial, fun h => (by cases h), (within_in _ _ _ _ _ _ _).mono ?_⟩
  rintro e w5 ⟨gB, rfl, hbB, B5, hgB⟩
  replace H := H.call B5 (Nat.le_refl _)
  have hb5 := H.below
  have hs5 := hb5.size
  have hr5 := H.get 0 rfl
  have hlr := H.lti 0 rfl
  have hlB := (Array.getElem?_eq_some_iff.1 hbB).1
  have hgBn : Hid (gB ≠ gr) := (by omega : gB ≠ gr)
  have hkw : Hid (Kc (fun k => k = gr) w w5) := Kc.below hb5 (Nat.le_refl _)
  have hst := within_stops (Pr := PrE) (fun k => k = gr) (n - 1) gB (nd, kids) (.slice va kids.len vc) zs w5 hbB (owns8_kc ho.out hkw.out (fun b hb => by have := hown.out b hb; omega)) (fun b hb => by have := hown.out b hb; omega) (Kd.kc hkw.out (hold.out.mono (fun b _ h => by omega))) hPr.out hA.out (by omega) (by have := hgBn.out; omega) (fun k hk => by omega)
  have I0 : ExI w gr w5 := ⟨hr5, hb5⟩
  gi_wp2
  refine wpIn_rangeFunc_ownH rfl (by omega) (gf := 40) (lb := #[.pointer (some ⟨gB, 0, none⟩)]) rfl (wide_fn 40) (enters_of Tryd.func40 (by kernel_rfl) rfl)
    hst (fun h k => h.trans k) (fun W l o o' hl ho hc _ => ⟨by simp [World.putObj], fun k cs t fr hn e => ?kb⟩) (Below.refl _ w5) (fun _ => rfl)
    (fun pre W => ExI w gr W)
    (fun _ _ _ => False)
    (fun pre W W' row hs hg hr => hs.own hs5 hg hr)
    (fun _ _ _ _ _ hs _ _ => hs)
    I0
    (fun x a' W => ∃ g5, a' = { tmps := #[reV nd.k nd.s (.slice va kids.len vc) nd.mn nd.mx, .pointer (some ⟨g1, 0, none⟩), .pointer (some ⟨gr, 0, none⟩), undef, .pointer (some ⟨g5, 0, none⟩), undef, undef, reV nd.k nd.s (.slice va kids.len vc) nd.mn nd.mx, .func (.func 40) #[] #[.pointer (some ⟨gB, 0, none⟩)], .int .i64 (x.d : Int), reV x.nd.k x.nd.s (.slice x.ad x.len x.cap) x.nd.mn x.nd.mx, undef, undef, undef, undef, undef, undef, undef, undef, undef, undef, undef, undef, undef, undef, undef, undef, undef, undef, undef, undef, undef, undef, undef, undef, undef], defers := [] } ∧ W.heap[g5]? = some (.cells (reA x.nd.k x.nd.s (.slice x.ad x.len x.cap) x.nd.mn x.nd.mx) 28 (0, 0)))
    (fun x a' _ W W' row hs hg hr => ?ax) ?assign ?body ?done ?stop
  case kb =>
    rw [(grownBy_putObj' W l o').block k (Array.getElem?_eq_some_iff.1 e).1 (fun h => by cases h; rw [ho] at e; cases e; cases hc)]
    exact e
  case ax =>
    obtain ⟨g5, e1, e2⟩ := hs
    refine ⟨g5, e1, (hg.block g5 (Array.getElem?_eq_some_iff.1 e2).1 (fun e => ?_)).trans e2⟩
    obtain ⟨_, o, ho, hc⟩ := hr g5 e.symm
    rw [e2] at ho
    cases ho
    cases hc
  case assign =>
    intro l pre x W K hi hK
    simp only [encE, List.zip_toArray, List.zip_cons_cons, List.zip_nil_left, List.zip_nil_right, List.foldl_toArray, List.foldl_cons, List.foldl_nil, List.setIfInBounds_toArray, List.set_cons_zero, List.set_cons_succ]
    replace hK := hide hK
    replace hi := hide hi
    gi_wp2_with (first | ((with_reducible refine atI_new28 ?_); refine wlI_new28 (round_fn l) rfl (fun _ => rfl) (fun _ => rfl) ?_; intro g5 w8 hb8 B8 hg8; replace hb8 := hide hb8; replace B8 := hide B8))
    have hbl := hi.out.bel.size
    exact hK.out _ w8 (but_keeps (below_but B8.out (Nat.le_refl _) (fun _ => False)) (fun k h => h.elim)) (Kc.below B8.out (Nat.le_refl _)) (hi.out.own hs5 (below_grown B8.out) (fun r e => (by cases e))) ⟨g5, rfl, hb8.out⟩
  
  case body =>
    rintro l pre x a' W hl ⟨r, hr⟩ hi ⟨g5, rfl, hb5'⟩ hlt
    obtain ⟨hkk, h3, h4⟩ := x.h
    have hTW := hT.out.below hi.bel
    rcases hkk with ⟨h1, c, h2⟩ | ⟨h1, h2⟩
    · rw [h1, h2, h3, h4] at hb5'
      clear h1 h2 h3 h4
      have ON := hide (only_any (sg c) (sg_ok c) W hTW)
      have hld := hide (load25f hb5')
      replace hi := hide hi
      replace hb5' := hide hb5'
      replace hr := hide hr
      replace hTW := hide hTW
      gi_wp2_with (first | ((with_reducible refine atI_load 25 ?_); refine wlI_load 25 (round_fn l) rfl hld.out ?_))
      refine ⟨trivial, fun h => (by cases h), (callsIn_wide.2 ON.out).mono ?_⟩
      rintro e w9 ⟨rfl, B9⟩
      rw [only_sg]
      have hb9 := (B9.block g5 (Array.getElem?_eq_some_iff.1 hb5'.out).1).trans hb5'.out
      have c0 := cell_row hb9 0 (v := .int .i64 1) rfl
      have c3 := cell_row hb9 6 (v := .int .i64 0) rfl
      have c4 := cell_row hb9 7 (v := .int .i64 0) rfl
      have B79 : Hid (But (fun _ => False) W w9) := below_but B9 (Nat.le_refl _) (fun _ => False)
      replace B9 := hide B9
      clear hb9
      gi_wp2
      have hlr9 := (Array.getElem?_eq_some_iff.1 hi.out.r).1
      refine ⟨but_keeps B79.out (fun k e => e.elim), but_kc B79.out (fun k e => e.elim), ?_, ?_⟩
      · rw [B79.out.block gr hlr9 (fun e => e), hi.out.r]
      · exact hi.out.bel.trans (B79.out.below hi.out.bel.size (fun k e => e.elim))
    · rw [h1, h2, h3, h4] at hb5'
      clear h1 h2 h3 h4
      have ON := hide (only_any noSet noSet_ok W hTW)
      have hld := hide (load25f hb5')
      replace hi := hide hi
      replace hb5' := hide hb5'
      replace hr := hide hr
      replace hTW := hide hTW
      gi_wp2_with (first | ((with_reducible refine atI_load 25 ?_); refine wlI_load 25 (round_fn l) rfl hld.out ?_))
      refine ⟨trivial, fun h => (by cases h), (callsIn_wide.2 ON.out).mono ?_⟩
      rintro e w9 ⟨rfl, B9⟩
      rw [only_no]
      have hb9 := (B9.block g5 (Array.getElem?_eq_some_iff.1 hb5'.out).1).trans hb5'.out
      have c0 := cell_row hb9 0 (v := .int .i64 2) rfl
      have c3 := cell_row hb9 6 (v := .int .i64 0) rfl
      have c4 := cell_row hb9 7 (v := .int .i64 0) rfl
      have B79 : Hid (But (fun _ => False) W w9) := below_but B9 (Nat.le_refl _) (fun _ => False)
      replace B9 := hide B9
      clear hb9
      gi_wp2
      have hlr9 := (Array.getElem?_eq_some_iff.1 hi.out.r).1
      refine ⟨but_keeps B79.out (fun k e => e.elim), but_kc B79.out (fun k e => e.elim), ?_, ?_⟩
      · rw [B79.out.block gr hlr9 (fun e => e), hi.out.r]
      · exact hi.out.bel.trans (B79.out.below hi.out.bel.size (fun k e => e.elim))
  case done =>
    rintro D xs W hD hS hI hK
    have hr := hide hI.r
    have hbe := hide hI.bel
    have hlr9 := (Array.getElem?_eq_some_iff.1 hI.r).1
    replace hI := hide hI
    replace hS := hide hS
    replace hK := hide hK
    gi_wp2_with (first | ((with_reducible refine atI_store 4 ?_); refine wlI_st4 wide_fn hr.out rfl rfl ?_; intro w7 hn7 B7; replace hn7 := hide hn7; replace B7 := hide B7))
    have hlD := (Array.getElem?_eq_some_iff.1 hK.out).1
    have hK7 : w7.heap[D]? = some (.deferred (some [])) := (B7.out.block D hlD (fun e => by omega)).trans hK.out
    have B77 := grownBy_putObj' w7 D (.deferred none)
    have hn9 : (w7.putObj D (.deferred none)).heap[gr]? = some (.cells #[.bool true] 4 (0, 0)) := (B77.block gr (by have := B7.out.size; omega) (fun e => by cases e; omega)).trans hn7.out
    refine ⟨by simp, .inl ⟨_, _, rfl, run_takeDeferred hK7, ?_⟩⟩
    refine ⟨_, results_cell0 rfl _ _ gr _ rfl (ld4 (cell_row hn9 0 rfl)), ?_, ?_⟩
    · rfl
    · exact (hbe.out.trans (B7.out.below (by have := hbe.out.size; omega) (fun k e => by omega))).grown B77 (by have := hbe.out.size; have := B7.out.size; omega) (fun k e => by cases e; omega)
  
  case stop =>
    rintro D c pre W _ _ hh _
    exact hh.elim
theorem exact_any (t : Tr) (P : Nat → Prop) (x : Value) (w : World) (hT : Tab w) (T : TrV w P x t) (hPr : PrE 1 t.1 t.2.len) (hA : AllF PrE 2 t.2) (hsz : szT t ≤ 4096) :
    Calls Tryd.prog 20 #[x] w fun e w' => e = .returned (.bool true) ∧ Below w.heap.size w w' := callsIn_wide.1 (exact_in 5 (by omega) t P x w hT T hPr hA hsz)
end Go.Proofs.YtnbhpojcckhlmaaDoor
