/-
  Size, Check of a pattern that may be.
-/
import Derived.Test.YtkfdikpnnkbgaaaGreatDoorZ
namespace Go.Proofs.YtkfdikpnnkbgaaaGreatDoor
open Go.RowKit Go.Shelf
set_option linter.unusedVariables false
set_option linter.unusedSimpArgs false
attribute [local go_sem] Oper.semAt_some

section
variable {F : Fence} {n : Nat} {w w' : World} {ops : Array Oper} {rest : List Oper} {a : Act} {Q : Exit → Act → World → Prop} {dst : Option Nat} {x y : Operand} {ty : TypeId} {pos : String} {after : Array Edge}
theorem wlI_alloc3 (hF : ∀ f, F.fn f) (h : ∀ g w', w'.heap[g]? = some (.cells #[.int .i64 0] 3 (0, 0)) → Below w.heap.size w w' → w.heap.size ≤ g → wpListIn F n Tryz.prog ops Q rest (a.put dst (.pointer (some ⟨g, 0, none⟩))) w') : wpListIn F n Tryz.prog ops Q (⟨dst, .alloc 3, ty, pos, after, none⟩ :: rest) a w :=
  wlI_val hF (fun c => nofun) (run_alloc3 w) (h _ _ (heap_alloc_new w _) ((Below.refl _ w).alloc (Nat.le_refl _) _) (Nat.le_refl _))
theorem run_st3 {w : World} {g : Nat} {u : Value} {v : Int} (h : w.heap[g]? = some (.cells #[u] 3 (0, 0))) : (storeVar 3 ⟨g, 0, none⟩ (.int .i64 v)).run Tryz.prog w = .ok () (w.setCell ⟨g, 0, none⟩ (.int .i64 v)) := by
  have hc := cell_row h 0 (v := u) rfl
  have hf := frozen_of_row w g 0 _ 3 h
  have e : (storeCells ⟨g, 0, none⟩ [.int .i64 v]).run Tryz.prog w = .ok () (w.setCell ⟨g, 0, none⟩ (.int .i64 v)) := by simp [storeCells, go_sem, stored, hc, hf]
  have e4 : (Value.int .i64 v).cells = #[.int .i64 v] := rfl
  unfold storeVar
  simp only [Sem.run_bind, one3, Result.andThen_ok, e4]
  simpa using e
theorem wlI_st3 (hF : ∀ f, F.fn f) {g : Nat} {u : Value} {v : Int} (hg : w.heap[g]? = some (.cells #[u] 3 (0, 0))) (hx : a.eval x = .pointer (some ⟨g, 0, none⟩)) (hy : a.eval y = .int .i64 v) (h : ∀ w', w'.heap[g]? = some (.cells #[.int .i64 v] 3 (0, 0)) → But (fun k => k = g) w w' → wpListIn F n Tryz.prog ops Q rest a w') : wpListIn F n Tryz.prog ops Q (⟨none, .store 3 x y, ty, pos, after, none⟩ :: rest) a w := by
  refine wlI_skip (w' := w.setCell ⟨g, 0, none⟩ (.int .i64 v)) hF (fun c => nofun) ?_ (h _ ?_ ?_)
  · unfold execOp
    simp only [hx, hy, Instr.storeAt, Instr.sureAddr, Sem.run_bind, Sem.run_pure, Result.andThen_ok, run_st3 hg]
  · exact heap_setCell_same w g 0 _ 3 _ hg
  · exact ⟨rfl, rfl, rfl, by simp [World.setCell], fun k hk hn => Below.heap_setCell w ⟨g, 0, none⟩ _ k hn⟩
/-- A guarded load whose guard holds. -/
theorem wlI_loadG (t : TypeId) {gd : Nat × Bool} {ad : Addr} {v : Value} (hF : ∀ f, F.fn f) (hw : Region.wanted ⟨dst, .load t x, ty, pos, after, some gd⟩ (yielded ops a.tmps) = true) (hx : a.eval x = .pointer (some ad)) (hl : (loadVar t ad).run Tryz.prog w = .ok v w) (k : wpListIn F n Tryz.prog ops Q rest (a.put dst v) w) : wpListIn F n Tryz.prog ops Q (⟨dst, .load t x, ty, pos, after, some gd⟩ :: rest) a w := by
  refine wpListIn_step fun K hK => ?_
  rw [if_pos hw]
  unfold Oper.wpIn
  refine ⟨fun f _ => hF f, ?_⟩
  rw [Oper.semAt_plain F _ _ (by intro c hc'; cases hc')]
  unfold execOp
  simp only [hx, Instr.loadAt, Instr.sureAddr, Sem.run_bind, Sem.run_pure, Result.andThen_ok, hl]
  exact hK _ _ k
variable {S : Nat → Prop} {w0 : World} {L : List Ent}
theorem wlS_box28 (hF : ∀ f, F.fn f) (H : St S w0 w L) {m : Int} {s : S4} {l : Value} {mn mx : Int} (hx : a.eval x = reV m s l mn mx) (h : ∀ g w', St S w0 w' ((true, g, 27, reA m s l mn mx) :: L) → w0.heap.size ≤ g → wpListIn F n Tryz.prog ops Q rest (a.put dst (.pointer (some ⟨g, 0, none⟩))) w') : wpListIn F n Tryz.prog ops Q (⟨dst, .box 27 x, ty, pos, after, none⟩ :: rest) a w :=
  wlI_val hF (fun c => nofun) (run_box28 _ _ _ _ _ _ m s l mn mx hx w) (h _ _ (H.alloc 27 _) H.but.size)
theorem wlS_alloc3 (hF : ∀ f, F.fn f) (H : St S w0 w L) (h : ∀ g w', St S w0 w' ((true, g, 3, #[.int .i64 0]) :: L) → w0.heap.size ≤ g → wpListIn F n Tryz.prog ops Q rest (a.put dst (.pointer (some ⟨g, 0, none⟩))) w') : wpListIn F n Tryz.prog ops Q (⟨dst, .alloc 3, ty, pos, after, none⟩ :: rest) a w :=
  wlI_val hF (fun c => nofun) (run_alloc3 w) (h _ _ (H.alloc 3 _) H.but.size)
theorem wlS_st3 (i : Nat) (hF : ∀ f, F.fn f) (H : St S w0 w L) {g : Nat} {u : Value} {v : Int} (h : L[i]? = some (true, g, 3, #[u])) (hx : a.eval x = .pointer (some ⟨g, 0, none⟩)) (hy : a.eval y = .int .i64 v) (k : ∀ w', St S w0 w' (L.set i (true, g, 3, #[.int .i64 v])) → wpListIn F n Tryz.prog ops Q rest a w') : wpListIn F n Tryz.prog ops Q (⟨none, .store 3 x y, ty, pos, after, none⟩ :: rest) a w := by
  refine wlI_skip (w' := w.setCell ⟨g, 0, none⟩ (.int .i64 v)) hF (fun c => nofun) ?_ (k _ (H.setCell i h 0 _))
  unfold execOp
  simp only [hx, hy, Instr.storeAt, Instr.sureAddr, Sem.run_bind, Sem.run_pure, Result.andThen_ok, run_st3 (H.get i h)]
theorem wlS_load28 (i : Nat) (hF : ∀ f, F.fn f) (H : St S w0 w L) {b : Bool} {g : Nat} {m : Int} {s : S4} {l : Value} {mn mx : Int} (h : L[i]? = some (b, g, 27, reA m s l mn mx)) (hx : a.eval x = .pointer (some ⟨g, 0, none⟩)) (k : wpListIn F n Tryz.prog ops Q rest (a.put dst (reV m s l mn mx)) w) : wpListIn F n Tryz.prog ops Q (⟨dst, .load 27 x, ty, pos, after, none⟩ :: rest) a w := wlI_load 27 hF hx (load28 (H.get i h)) k
theorem atI_loadG (t : TypeId) {gd : Nat × Bool} (h : wpListIn F n Tryz.prog ops Q (⟨dst, .load t x, ty, pos, after, some gd⟩ :: rest) a w) : wpListIn F n Tryz.prog ops Q (⟨dst, .load t x, ty, pos, after, some gd⟩ :: rest) a w := h
end
/-- What is asked of each one. -/
def PrS (d : Nat) (n : Nd) (len : Nat) : Prop := d ≤ 128 ∧ fitN n len
theorem allS : ∀ (f : Fo) (d : Nat), f.fit → d + f.dp ≤ 129 → AllF PrS d f
  | .nil, _, _, _ => trivial
  | .cons n k r, d, ⟨h1, h2, h3⟩, h => by
    simp only [Fo.dp] at h
    exact ⟨⟨by omega, h1⟩, allS k (d + 1) h2 (by omega), allS r d h3 (by omega)⟩
/-- Between the rounds: the count, the result's box, and nothing old has turned. -/
structure SzI (w0 : World) (gn gr : Nat) (k : Nat) (W : World) : Prop where
  n : W.heap[gn]? = some (.cells #[.int .i64 (k : Int)] 3 (0, 0))
  r : W.heap[gr]? = some (.cells #[.int .i64 0] 3 (0, 0))
  bel : Below w0.heap.size w0 W
theorem SzI.own {w0 : World} {gn gr k B : Nat} {W W' : World} {row : Option Nat} (h : SzI w0 gn gr k W) (hB : w0.heap.size ≤ B) (hg : W.grownBy W' row) (hr : ∀ r, row = some r → B ≤ r ∧ ∃ o : Obj, W.heap[r]? = some o ∧ o.isCells = false) : SzI w0 gn gr k W' := by
  have ne : ∀ g xs t, W.heap[g]? = some (.cells xs t (0, 0)) → some g ≠ row := fun g xs t h e => by
    obtain ⟨_, o, ho, hc⟩ := hr g e.symm
    rw [h] at ho
    cases ho
    cases hc
  refine ⟨(hg.block gn (Array.getElem?_eq_some_iff.1 h.n).1 (ne _ _ _ h.n)).trans h.n, (hg.block gr (Array.getElem?_eq_some_iff.1 h.r).1 (ne _ _ _ h.r)).trans h.r, h.bel.grown hg h.bel.size (fun k e => by have := (hr k e).1; omega)⟩
theorem but_keeps {S : Nat → Prop} {W W' : World} {B : Nat} (h : But S W W') (hS : ∀ k, S k → k < B ∨ ∃ xs t, W.heap[k]? = some (.cells xs t (0, 0))) : KeepsFrom B W W' := ⟨h.size, fun k o hB hk ho => by
  rw [h.block k (Array.getElem?_eq_some_iff.1 hk).1 (fun e => ?_)]
  · exact hk
  · rcases hS k e with h1 | ⟨xs, t, h1⟩
    · omega
    · rw [h1] at hk; cases hk; cases ho⟩
theorem but_kc {S T : Nat → Prop} {W W' : World} (h : But S W W') (hT : ∀ k, S k → T k) : Kc T W W' := ⟨h.size, fun k cs t fr hn e => by rw [h.block k (Array.getElem?_eq_some_iff.1 e).1 (fun hs => hn (hT k hs))]; exact e⟩
theorem below_but {W W' : World} {B : Nat} (h : Below B W W') (hB : W.heap.size ≤ B) (S : Nat → Prop) : But S W W' := but_of_below h S (fun k hk hb => by omega)
set_option maxHeartbeats 8000000 in
set_option maxRecDepth 100000 in
theorem size_in (n : Nat) (hn : 3 ≤ n) (t : Tr) (P : Nat → Prop) (x : Value) (w : World) (T : TrV w P x t) (hf : fitT t) (hsz : szT t ≤ 4096) (hdp : dpT t ≤ 128) :
    CallsIn Fence.wide n Tryz.prog 59 #[x] w fun e w' => e = .returned (.int .i64 (szT t : Int)) ∧ Below w.heap.size w w' := by
  obtain ⟨v, zs, rfl, ho, hp, hk⟩ := T
  obtain ⟨va, vc, hv, _, _⟩ := owns8_val ho
  subst hv
  obtain ⟨nd, kids⟩ := t
  simp only at *
  have hold : Hid (Kd w (fun b => b < w.heap.size) kids zs) := hk.mono (fun b hb _ => hb)
  have hown : Hid (∀ b, (Value.slice va kids.len vc).ownBlock = some b → b < w.heap.size) := fun b hb => (owns8_lt ho hb).2
  have hPr : Hid (PrS 1 nd kids.len) := ⟨by omega, hf.1⟩
  have hA : Hid (AllF PrS 2 kids) := allS kids 2 hf.2 (by simp only [dpT] at hdp; omega)
  replace ho := hide ho
  clear hk hp hf
  have H := St.start Nope w
  have m0 := trivial
  refine callsIn_of_wp_marks Tryz.func59 rfl trivial ?_ rfl
  simp only [Tryz.ntmps59, List.size_toArray, List.length_cons, List.length_nil, Nat.reduceAdd, Nat.reduceSub, Array.replicate_succ, Array.replicate_zero, List.push_toArray, List.append_toArray, List.nil_append, List.cons_append]
  gi_wp2_with (first | ((with_reducible refine atI_box 27 ?_); refine wlS_box28 wide_fn H rfl ?_; clear H; intro g1 w1 H hg1) | ((with_reducible refine atI_alloc 3 ?_); clear m0; refine wlS_alloc3 wide_fn H ?_; clear H; intro gr w2 H hgr) | ((with_reducible refine atI_alloc 3 ?_); refine wlS_alloc3 wide_fn H ?_; clear H; intro g w2 H hg) | ((with_reducible refine atI_store 3 ?_); refine wlS_st3 0 wide_fn H rfl rfl rfl ?_; clear H; intro w3 H) | ((with_reducible refine atI_load 27 ?_); refine wlS_load28 2 wide_fn H rfl rfl ?_))
  have hln3 := H.lti 0 rfl
  have hlr3 := H.lti 1 rfl
  refine ⟨trivial, fun h => (by cases h), (within_in _ _ _ _ _ _ _).mono ?_⟩
  rintro e w5 ⟨gB, rfl, hbB, B5, hgB⟩
  replace H := H.call B5 (Nat.le_refl _)
  have hb5 := H.below
  have hs5 := hb5.size
  have hn5 := H.get 0 rfl
  have hr5 := H.get 1 rfl
  have hln := H.lti 0 rfl
  have hlr := H.lti 1 rfl
  have hne : Hid (g ≠ gr) := fun e => by
    have := H.nd
    simp [e] at this
  have hlB := (Array.getElem?_eq_some_iff.1 hbB).1
  have hgBn : Hid (gB ≠ g ∧ gB ≠ gr) := ⟨by omega, by omega⟩
  have hkw : Hid (Kc (fun k => k = g ∨ k = gr) w w5) := Kc.below hb5 (Nat.le_refl _)
  have hst := within_stops (Pr := PrS) (fun k => k = g ∨ k = gr) (n - 1) gB (nd, kids) (.slice va kids.len vc) zs w5 hbB (owns8_kc ho.out hkw.out (fun b hb => by have := hown.out b hb; omega)) (fun b hb => by have := hown.out b hb; omega) (Kd.kc hkw.out (hold.out.mono (fun b _ h => by omega))) hPr.out hA.out (by omega) (by have := hgBn.out; omega) (fun k hk => by omega)
  have I0 : SzI w g gr 0 w5 := ⟨hn5, hr5, hb5⟩
  gi_wp2
  refine wpIn_rangeFunc_ownH rfl (by omega) (gf := 120) (lb := #[.pointer (some ⟨gB, 0, none⟩)]) rfl (wide_fn 39) (enters_of Tryz.func120 (by kernel_rfl) rfl)
    hst (fun h k => h.trans k) (fun W l o o' hl ho hc _ => ⟨by simp [World.putObj], fun k cs t fr hn e => ?kb⟩) (Below.refl _ w5) (fun _ => rfl)
    (fun pre W => SzI w g gr pre.length W)
    (fun _ _ _ => False)
    (fun pre W W' row hs hg hr => hs.own hs5 hg hr)
    (fun _ _ _ _ _ hs _ _ => hs)
    I0
    (fun x a' W => ∃ g5, a' = { tmps := #[reV nd.k nd.s (.slice va kids.len vc) nd.mn nd.mx, .pointer (some ⟨g1, 0, none⟩), .pointer (some ⟨gr, 0, none⟩), .pointer (some ⟨g, 0, none⟩), .int .i64 (x.d : Int), .pointer (some ⟨g5, 0, none⟩), reV nd.k nd.s (.slice va kids.len vc) nd.mn nd.mx, .func (.func 120) #[] #[.pointer (some ⟨gB, 0, none⟩)], .int .i64 (x.d : Int), reV x.nd.k x.nd.s (.slice x.ad x.len x.cap) x.nd.mn x.nd.mx, undef, undef, undef, undef, undef, undef, undef, undef, undef, undef, undef, undef, undef, undef], defers := [] } ∧ W.heap[g5]? = some (.cells (reA x.nd.k x.nd.s (.slice x.ad x.len x.cap) x.nd.mn x.nd.mx) 27 (0, 0)))
    (fun x a' _ W W' row hs hg hr => ?ax) ?assign ?body ?done ?stop
  case kb =>
    rw [(grownBy_putObj' W l o').block k (Array.getElem?_eq_some_iff.1 e).1 (fun h => by cases h; rw [ho] at e; cases e; cases hc)]
    exact e
  case ax =>
    obtain ⟨g5, e1, e2⟩ := hs
    refine ⟨g5, e1, (hg.block g5 (Array.getElem?_eq_some_iff.1 e2).1 (fun e => ?_)).trans e2⟩
    obtain ⟨_, o, ho, hc⟩ := hr g5 e.symm
    rw [e2] at ho
    cases ho
    cases hc
  case assign =>
    intro l pre x W K hi hK
    simp only [encE, List.zip_toArray, List.zip_cons_cons, List.zip_nil_left, List.zip_nil_right, List.foldl_toArray, List.foldl_cons, List.foldl_nil, List.setIfInBounds_toArray, List.set_cons_zero, List.set_cons_succ]
    replace hK := hide hK
    replace hi := hide hi
    gi_wp2_with (first | ((with_reducible refine atI_new28 ?_); refine wlI_new28 (round_fn l) rfl (fun _ => rfl) (fun _ => rfl) ?_; intro g5 w8 hb8 B8 hg8; replace hb8 := hide hb8; replace B8 := hide B8))
    have hbl := hi.out.bel.size
    exact hK.out _ w8 (but_keeps (below_but B8.out (Nat.le_refl _) (fun _ => False)) (fun k h => h.elim)) (Kc.below B8.out (Nat.le_refl _)) (hi.out.own hs5 (below_grown B8.out) (fun r e => (by cases e))) ⟨g5, rfl, hb8.out⟩
  
  case body =>
    rintro l pre x a' W hl ⟨r, hr⟩ hi ⟨g5, rfl, hb5'⟩ hlt
    have hne5 : g5 ≠ g := fun e => by
      have h := hi.n.symm.trans (e ▸ hb5')
      simp at h
    have cN := cell_row hi.n 0 (v := .int .i64 (pre.length : Int)) rfl
    have hPx := x.h
    have hd : (x.d : Int) ≤ 128 := by have := hPx.1; omega
    have hd2 : ¬ ((128 : Int) < (x.d : Int)) := by omega
    have hc2 : ¬ ((4096 : Int) < (pre.length : Int) + 1) := by omega
    have hll : pre.length < 4096 := by omega
    have hNs := hide hi.n
    have FI := hide (fun w => isFit_any x.nd x.ad x.len x.cap hPx.2 w)
    replace hPx := hide hPx
    replace hi := hide hi
    replace hb5' := hide hb5'
    replace hr := hide hr
    gi_wp2_with (first | ((with_reducible refine atI_store 3 ?_); refine wlI_st3 (round_fn l) hNs.out rfl rfl ?_; intro w7 hn7 B7; have cN7 := cell_row hn7 0 (v := .int .i64 ((pre.length : Int) + 1)) rfl; replace hn7 := hide hn7; have hb7 := hide ((B7.block g5 (Array.getElem?_eq_some_iff.1 hb5'.out).1 hne5).trans hb5'.out); replace B7 := hide B7) | ((with_reducible refine atI_loadG 27 ?_); refine wlI_loadG 27 (round_fn l) rfl rfl (load28 hb7.out) ?_))
    refine ⟨trivial, fun h => (by cases h), (callsIn_wide.2 (FI.out w7)).mono ?_⟩
    rintro e w9 ⟨rfl, B9⟩
    have B79 : Hid (But (fun k => k = g) W w9) := B7.out.trans (below_but B9 (Nat.le_refl _) (fun _ => False)) (fun i _ h => h.elim)
    replace B9 := hide B9
    gi_wp2
    have hlg := (Array.getElem?_eq_some_iff.1 hn7.out).1
    have hlr9 := (Array.getElem?_eq_some_iff.1 hi.out.r).1
    refine ⟨but_keeps B79.out (fun k e => .inl (by omega)), but_kc B79.out (fun k e => .inl e), ?_, ?_, ?_⟩
    · rw [B9.out.block g hlg, hn7.out]
      simp
    · rw [B79.out.block gr hlr9 (fun e => hne.out e.symm), hi.out.r]
    · exact hi.out.bel.trans (B79.out.below hi.out.bel.size (fun k e => by omega))
  
  case done =>
    rintro D xs W hD hS hI hK
    have cN := cell_row hI.n 0 (v := .int .i64 (xs.length : Int)) rfl
    have hr := hide hI.r
    have hbe := hide hI.bel
    have hlr9 := (Array.getElem?_eq_some_iff.1 hI.r).1
    replace hI := hide hI
    replace hS := hide hS
    replace hK := hide hK
    gi_wp2_with (first | ((with_reducible refine atI_store 3 ?_); refine wlI_st3 wide_fn hr.out rfl rfl ?_; intro w7 hn7 B7; replace hn7 := hide hn7; replace B7 := hide B7))
    have hlD := (Array.getElem?_eq_some_iff.1 hK.out).1
    have hK7 : w7.heap[D]? = some (.deferred (some [])) := (B7.out.block D hlD (fun e => by omega)).trans hK.out
    have B77 := grownBy_putObj' w7 D (.deferred none)
    have hn9 : (w7.putObj D (.deferred none)).heap[gr]? = some (.cells #[.int .i64 (xs.length : Int)] 3 (0, 0)) := (B77.block gr (by have := B7.out.size; omega) (fun e => by cases e; omega)).trans hn7.out
    refine ⟨by simp, .inl ⟨_, _, rfl, run_takeDeferred hK7, ?_⟩⟩
    refine ⟨_, results_cell0 rfl _ _ gr _ rfl (ld3 (cell_row hn9 0 rfl)), ?_, ?_⟩
    · rw [hS.out]; rfl
    · exact (hbe.out.trans (B7.out.below (by have := hbe.out.size; omega) (fun k e => by omega))).grown B77 (by have := hbe.out.size; have := B7.out.size; omega) (fun k e => by cases e; omega)
  
  case stop =>
    rintro D c pre W _ _ hh _
    exact hh.elim
theorem size_any (t : Tr) (P : Nat → Prop) (x : Value) (w : World) (T : TrV w P x t) (hf : fitT t) (hsz : szT t ≤ 4096) (hdp : dpT t ≤ 128) :
    Calls Tryz.prog 59 #[x] w fun e w' => e = .returned (.int .i64 (szT t : Int)) ∧ Below w.heap.size w w' := callsIn_wide.1 (size_in 5 (by omega) t P x w T hf hsz hdp)
set_option maxHeartbeats 2000000 in
theorem check_any (t : Tr) (P : Nat → Prop) (x : Value) (w : World) (T : TrV w P x t) (hf : fitT t) (hsz : szT t ≤ 4096) (hdp : dpT t ≤ 128) :
    Calls Tryz.prog 29 #[x] w fun e w' => e = .returned (.bool true) ∧ Below w.heap.size w w' := by
  have H := St.start Nope w
  have SZ := hide (fun w' T => size_any t P x w' T hf hsz hdp)
  have hp : 0 < szT t := by simp [szT]; omega
  have hT : Hid (TrV w P x t) := T
  obtain ⟨va, vn, vc, rfl⟩ := T.val
  clear T
  have hp2 : (0 : Int) < (szT t : Int) := by omega
  replace hf := hide hf
  go_enter Tryz.func29, Tryz.ntmps29
  go_wp2_with (first | ((with_reducible refine at_box 27 ?_); refine wl_box28 H rfl ?_; clear H; intro g w' H q1 q2) | ((with_reducible refine at_load 27 ?_); refine wl_load28 0 H rfl rfl ?_))
  refine (SZ.out _ (hT.out.kept (fun b _ hb => H.below.block b hb))).mono ?_
  rintro e w1 ⟨rfl, B1⟩
  go_wp2_with fail
  go_ret
  exact ⟨rfl, H.below.trans (B1.mono H.below.size)⟩
end Go.Proofs.YtkfdikpnnkbgaaaGreatDoor
