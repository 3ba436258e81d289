/-
  Text.
-/
import Derived.Test.YtkgegjnkkbgghaaDoorDS
namespace Go.Proofs.YtkgegjnkkbgghaaDoor
open Go.RowKit Go.Shelf Go.Lib
set_option linter.unusedVariables false
set_option linter.unusedSimpArgs false
attribute [local go_sem] Oper.semAt_some

section
variable {F : Fence} {n : Nat} {w w' : World} {ops : Array Oper} {rest : List Oper} {a : Act} {Q : Exit → Act → World → Prop} {dst : Option Nat} {p q : Operand} {ty : TypeId} {pos : String} {after : Array Edge}
theorem atI_bs48 {ps : Array (Nat × Operand)} {m : Nat} (h : wpListIn F n Tryd.prog ops Q (⟨dst, .buildSlice 48 m ps, ty, pos, after, none⟩ :: rest) a w) : wpListIn F n Tryd.prog ops Q (⟨dst, .buildSlice 48 m ps, ty, pos, after, none⟩ :: rest) a w := h
theorem wlI_bs48 (hF : ∀ f, F.fn f) {x y : Int} (hx : a.eval p = .int .i64 x) (hy : a.eval q = .int .i64 y) (k : ∀ g w', w'.heap[g]? = some (.cells #[.int .i64 x, .int .i64 y] 3 (0, 0)) → Below w.heap.size w w' → w.heap.size ≤ g → wpListIn F n Tryd.prog ops Q rest (a.put dst (.slice (some ⟨g, 0, none⟩) 2 2)) w') : wpListIn F n Tryd.prog ops Q (⟨dst, .buildSlice 48 2 #[(0, p), (1, q)], ty, pos, after, none⟩ :: rest) a w := by
  refine wlI_val hF (fun c => nofun) (w' := w.alloc (.cells #[.int .i64 x, .int .i64 y] 3)) ?_ (k _ _ (heap_alloc_new w _) ((Below.refl _ w).alloc (Nat.le_refl _) _) (Nat.le_refl _))
  unfold execOp
  simp only [List.map_toArray, List.map_cons, List.map_nil, hx, hy, Sem.run_bind, run_bs48, Result.andThen_ok, Sem.run_pure]
theorem wlI_new61 (hF : ∀ f, F.fn f) (h : ∀ g w', IsBuilder 61 5 g g (byteCells []) w' → Below w.heap.size w w' → g = w.heap.size → wpListIn F n Tryd.prog ops Q rest (a.put dst (.pointer (some ⟨g, 0, none⟩))) w') : wpListIn F n Tryd.prog ops Q (⟨dst, .alloc 61, ty, pos, after, none⟩ :: rest) a w := by
  have e : (execOp a.eval ⟨dst, .alloc 61, ty, pos, after, none⟩).run Tryd.prog w = .ok (.value (.pointer (some ⟨w.heap.size, 0, none⟩))) (w.alloc (.cells #[.pointer none, .slice none 0 0] 61)) := by
    unfold execOp
    kernel_rfl
  exact wlI_val hF (fun c => nofun) e (h _ _ (fresh_isBuilder 61 5 w) ((Below.refl _ w).alloc (Nat.le_refl _) _) rfl)
end
theorem isB_mono {B B' b : Nat} {bs : List Value} {W : World} (h : IsBuilder 61 5 B b bs W) (hB : B' ≤ B) : IsBuilder 61 5 B' b bs W := by
  have one : ∀ p, BuilderAt 61 5 B b p bs W → BuilderAt 61 5 B' b p bs W := fun p ⟨h1, v, hb, ho, hn⟩ => by
    refine ⟨by omega, v, hb, ⟨ho.1, ?_⟩, hn⟩
    rcases ho.2 with h1 | ⟨g, cp, cur, rfl, h2, h3⟩
    · exact .inl h1
    · exact .inr ⟨g, cp, cur, rfl, by omega, h3⟩
  rcases h with h | h
  · exact .inl (one _ h)
  · exact .inr (one _ h)
/-- What is answered of a text. -/
def TextV (L : List Ins) : Value := if chkI L = 0 then .tuple #[.string ⟨(txtI L).toArray⟩, .int .i64 0] else .tuple #[.string ⟨#[]⟩, .int .i64 (chkI L)]
theorem nums_le (x y : Int) (j : Nat) (h0 : 0 ≤ x) (h1 : x < 4096) (h2 : 0 ≤ y) (h3 : y < 4096) : (nums ([x, y].take j)).length ≤ 14 := by
  have h := nums_len ([x, y].take j) (fun z hz => by
    have := List.mem_of_mem_take hz
    simp only [List.mem_cons, List.not_mem_nil, or_false] at this
    rcases this with rfl | rfl <;> omega)
  have : ([x, y].take j).length ≤ 2 := by rw [List.length_take]; simp; omega
  omega
theorem tx_end {w : World} {gb gB B0 : Nat} {v : Value} {l l1 : List UInt8} {W W' : World} (hi : TxI w gb gB v l W) (T : Tz w.heap.size gb W W') (ib : IsBuilder 61 5 w.heap.size gb (byteCells l1) W') (hne : gB ≠ gb) (hB : w.heap.size ≤ B0) :
    KeepsFrom B0 W W' ∧ KO B0 (fun k => w.heap.size ≤ k ∧ k ≠ gB) W W' ∧ TxI w gb gB v l1 W' := by
  have hbB := T.keep gB _ hne hi.bB (fun _ _ => nofun)
  refine ⟨⟨T.bel.size, fun k o _ hk ho => T.keep k o (fun e => ?_) hk (fun xs fr e => ?_)⟩, ⟨T.bel.size, fun k _ hl hn => ?_⟩, ib, hbB, hi.bel.trans T.bel⟩
  · subst e
    rcases hi.ib with ⟨_, v, hb, _⟩ | ⟨_, v, hb, _⟩ <;> rw [hk] at hb <;> cases hb <;> cases ho
  · subst e
    cases ho
  · by_cases h : k = gB
    · subst h
      rw [hbB, hi.bB]
    · exact T.bel.block k (by omega)
set_option maxHeartbeats 16000000 in
set_option maxRecDepth 100000 in
theorem text_in (n : Nat) (hn : 3 ≤ n) (ad : Option Addr) (c : Nat) (L : List Ins) (w : World) (hP : Pw w) (hL : HsI w (fun k => k < w.heap.size) ad L) :
    CallsIn Fence.wide n Tryd.prog 15 #[.slice ad L.length c] w fun e w' => e = .returned (TextV L) ∧ Below w.heap.size w w' := by
  have CK := hide (chk_any ad c L w hL)
  unfold TextV
  by_cases hz : chkI L = 0
  · rw [if_pos hz]
    have hfit : (0 < L.length ∧ L.length ≤ 2048) ∧ ∀ i ∈ L, fitI i L.length = true := by
      unfold chkI at hz
      split at hz
      · cases hz
      · split at hz
        · rename_i h1 h2
          exact ⟨by omega, fun i hi => List.all_eq_true.1 h2 i hi⟩
        · cases hz
    have hzb : (chkI L != 0) = false := by rw [hz]; rfl
    generalize hck : chkI L = ck at *
    replace hck := hide hck
    subst hz
    generalize hres : (⟨(txtI L).toArray⟩ : ByteArray) = res
    replace hres := hide hres
    replace hL := hide hL
    refine callsIn_of_wp_marks Tryd.func15 rfl trivial ?_ rfl
    simp only [Tryd.ntmps15, List.size_toArray, List.length_cons, List.length_nil, Nat.reduceAdd, Nat.reduceSub, Array.replicate_succ, Array.replicate_zero, List.push_toArray, List.append_toArray, List.nil_append, List.cons_append]
    gi_wp2
    refine ⟨trivial, fun h => (by cases h), (callsIn_wide.2 CK.out).mono ?_⟩
    rintro e w1 ⟨rfl, B1⟩
    gi_wp2_with (first | ((with_reducible refine atI_alloc 61 ?_); refine wlI_new61 wide_fn ?_; intro gb w2 ib2 B2 hgb; replace hgb := hide hgb))
    refine ⟨trivial, fun h => (by cases h), (formed_in _ _ _ _ _).mono ?_⟩
    rintro e w5 ⟨gB, rfl, hbB, B5, hgB⟩
    replace hgb := hgb.out
    have hs1 := B1.size
    have hs2 := B2.size
    have hs5 := B5.size
    have B02 := B1.trans (B2.mono hs1)
    have B05 := B02.trans (B5.mono B02.size)
    have hlB := (Array.getElem?_eq_some_iff.1 hbB).1
    have ib5 := isB_mono (B' := w.heap.size) (isB_below ib2 B5) (by omega)
    have hne : gb ≠ gB := by
      have : gb < w2.heap.size := by rcases ib2 with h | h <;> exact h.lt
      omega
    have hgw : w.heap.size ≤ gb := by omega
    have hs5w : w.heap.size ≤ w5.heap.size := by omega
    have hgBw : w.heap.size ≤ gB := by omega
    have hst := formed_stops (Pr := fun i => fitI i L.length = true) w5.heap.size (fun k => w.heap.size ≤ k ∧ k ≠ gB) (fun k => k < w.heap.size) (n - 1) gB ad c L w5 hbB (hL.out.kept (fun k _ hl => B05.block k hl) (fun k _ h => h)) (fun k hk => ⟨by omega, by omega⟩) (by omega) (by omega) hfit.2 (by omega)
    have I0 : TxI w gb gB (.slice ad L.length c) [] w5 := ⟨ib5, hbB, B05⟩
    clear hgb ib2 ib5
    gi_wp2
    refine wpIn_rangeFunc_ownH rfl (by omega) (gf := 42) (lb := #[.pointer (some ⟨gB, 0, none⟩)]) rfl (wide_fn 42) (enters_of Tryd.func42 (by kernel_rfl) rfl)
      hst (fun h k => h.trans k) (fun W l o o' hl ho hc _ => ⟨by simp [World.putObj], fun k hk hlt hX => (grownBy_putObj' W l o').block k hlt (fun h => by cases h; omega)⟩) (Below.refl _ w5) (fun _ => rfl)
      (fun (pre : List { i : Ins // fitI i L.length = true }) W => TxI w gb gB (.slice ad L.length c) (txtI (pre.map Subtype.val)) W)
      (fun _ _ _ => False)
      (fun pre W W' row hs hg hr => hs.own (by omega) hg hr)
      (fun _ _ _ _ _ hs _ _ => hs)
      I0
      (fun x a' W => ∃ g5 g6 u4 u10 u11 u12 u13 u14 u15, a' = { tmps := #[.slice ad L.length c, undef, .string ⟨#[]⟩, .int .i64 0, u4, .pointer (some ⟨gb, 0, none⟩), .pointer (some ⟨g5, 0, none⟩), .pointer (some ⟨g6, 0, none⟩), undef, undef, u10, u11, u12, u13, u14, u15, .func (.func 42) #[] #[.pointer (some ⟨gB, 0, none⟩)], fmV (fm x.1.op), insV x.1, undef, undef, undef, undef, undef, undef, undef, undef, undef, undef, undef, undef, undef, undef, undef, undef, undef, undef, undef, undef, undef, undef, undef, undef, undef, undef, undef, undef, undef, undef, undef], defers := [] } ∧ W.heap[g5]? = some (.cells (fmA (fm x.1.op)) 66 (0, 0)) ∧ W.heap[g6]? = some (.cells (insA x.1) 45 (0, 0)))
      (fun x a' _ W W' row hs hg hr => ?ax) ?assign ?body ?done ?stop
    case ax =>
      obtain ⟨g5, g6, u4, u10, u11, u12, u13, u14, u15, e1, e2, e3⟩ := hs
      have ne : ∀ g xs t, W.heap[g]? = some (.cells xs t (0, 0)) → some g ≠ row := fun g xs t h e => by
        obtain ⟨_, o, ho, hc⟩ := hr g e.symm
        rw [h] at ho
        cases ho
        cases hc
      exact ⟨g5, g6, u4, u10, u11, u12, u13, u14, u15, e1, (hg.block g5 (Array.getElem?_eq_some_iff.1 e2).1 (ne _ _ _ e2)).trans e2, (hg.block g6 (Array.getElem?_eq_some_iff.1 e3).1 (ne _ _ _ e3)).trans e3⟩
    case assign =>
      intro l pre x W K hi hK
      simp only [encI, List.zip_toArray, List.zip_cons_cons, List.zip_nil_left, List.zip_nil_right, List.foldl_toArray, List.foldl_cons, List.foldl_nil, List.setIfInBounds_toArray, List.set_cons_zero, List.set_cons_succ]
      replace hK := hide hK
      replace hi := hide hi
      gi_wp2_with (first | ((with_reducible refine atI_newF ?_); refine wlI_newF (f := fm x.1.op) (round_fn l) (fun _ => rfl) (fun _ => rfl) ?_; intro g5 w8 hb8 B8 hg8; replace hb8 := hide hb8; replace B8 := hide B8) | ((with_reducible refine atI_newI ?_); refine wlI_newI (i := x.1) (round_fn l) (fun _ => rfl) (fun _ => rfl) ?_; intro g6 w9 hb9 B9 hg9; replace hb9 := hide hb9; replace B9 := hide B9))
      have B89 : Below W.heap.size W w9 := B8.out.trans (B9.out.mono B8.out.size)
      have hb89 := (B9.out.block g5 (Array.getElem?_eq_some_iff.1 hb8.out).1).trans hb8.out
      exact hK.out _ w9 (but_keeps (below_but B89 (Nat.le_refl _) (fun _ => False)) (fun k h => h.elim)) (KO.below B89 (Nat.le_refl _)) (hi.out.below B89) ⟨g5, g6, _, _, _, _, _, _, _, rfl, hb89, hb9.out⟩
    case body =>
      rintro l pre x a' W hl ⟨r, hr⟩ hi ⟨g5, g6, u4, u10, u11, u12, u13, u14, u15, rfl, f5, f6⟩ hlt
      have hll : Hid ((txtI (pre.map Subtype.val)).length ≤ 1000000) := by have := txt_len hfit.1.2 pre; show _ ≤ _; omega
      obtain ⟨cq, hcq⟩ : ∃ cq, cq = csn x.1.s 4 := ⟨_, rfl⟩
      have hprop : Hid ((0 ≤ x.1.x ∧ x.1.x < 4096 ∧ 0 ≤ x.1.y ∧ x.1.y < 4096) ∧ (0 ≤ cq ∧ cq ≤ 508) ∧ ∀ w, Calls Tryd.prog 29 #[setV x.1.s] w fun e w' => e = .returned (.int .i64 cq) ∧ Below w.heap.size w w') := ⟨(fit_fields x.2 hfit.1.2).2, hcq ▸ csn4 x.1.s, fun w => hcq ▸ count_any x.1.s w⟩
      replace hcq := hide hcq
      have hg5n : g5 ≠ gb := fun e => by
        subst e
        rcases hi.ib with ⟨_, v, hb, _⟩ | ⟨_, v, hb, _⟩ <;> rw [f5] at hb <;> cases hb
      have hg6n : g6 ≠ gb := fun e => by
        subst e
        rcases hi.ib with ⟨_, v, hb, _⟩ | ⟨_, v, hb, _⟩ <;> rw [f6] at hb <;> cases hb
      have hPW : Pw W := hP.below hi.bel
      have hWs : w.heap.size ≤ W.heap.size := hi.bel.size
      obtain ⟨l0, hl0⟩ : ∃ l0, l0 = txtI (pre.map Subtype.val) := ⟨_, rfl⟩
      rw [← hl0] at hi hll
      replace hl0 := hide hl0
      have hll0 := hll.out
      replace hr := hide hr
      replace f5 := hide f5
      replace f6 := hide f6
      rcases (fit_fields x.2 (by omega)).1 with hop | hop | hop | hop
      · obtain ⟨hxy, hsr, CNT⟩ := hprop.out
        replace CNT := hide CNT
        have hfm : fm x.1.op = ⟨⟨#[98, 121, 116, 101]⟩, true, 1⟩ := by rw [hop]; rfl
        rw [hfm] at f5
        have e5 := f5.out
        have e6 := f6.out
        have TZ0 := Tz.refl w.heap.size gb W
        have IB0 := hi.ib
        gi_wp2_with (first | ((with_reducible refine atI_load 9 ?_); refine wlI_load 9 (round_fn l) rfl (ld9 (cell_row e5 0 (v := .string ⟨#[98, 121, 116, 101]⟩) rfl)) ?_) | ((with_reducible refine atI_load 4 ?_); refine wlI_load 4 (round_fn l) rfl (ld4 (cell_row e5 1 (v := .bool true) rfl)) ?_) | ((with_reducible refine atI_load 24 ?_); refine wlI_load 24 (round_fn l) rfl (load25i e6) ?_) | ((with_reducible refine atI_load 3 ?_); first | (refine wlI_load 3 (round_fn l) rfl (ld3 (cell_row e6 5 (v := .int .i64 x.1.x) rfl)) ?_) | (refine wlI_load 3 (round_fn l) rfl (ld3 (cell_row e6 6 (v := .int .i64 x.1.y) rfl)) ?_) | (refine wlI_load 3 (round_fn l) rfl (ld3 (cell_row e5 2 (v := .int .i64 1) rfl)) ?_)) | ((with_reducible refine atI_bs48 ?_); refine wlI_bs48 (x := x.1.x) (y := x.1.y) (round_fn l) rfl rfl ?_; intro g8 w8 hb8 B8 hg8; replace e5 := (B8.block g5 (Array.getElem?_eq_some_iff.1 e5).1).trans e5; replace e6 := (B8.block g6 (Array.getElem?_eq_some_iff.1 e6).1).trans e6))
        refine ⟨trivial, fun h => (by cases h), (callsIn_wide.2 (ws_any w.heap.size gb l0 ⟨#[98, 121, 116, 101]⟩ W IB0 (by show l0.length + 4 ≤ _; omega) hWs)).mono ?_⟩
        rintro e w1 ⟨rfl, IB1, B1, Z1⟩
        clear e5 e6
        have TZ1 := TZ0.trans (Tz.bz B1 Z1)
        have e5 := TZ1.keep g5 _ hg5n f5.out (fun _ _ => nofun)
        have e6 := TZ1.keep g6 _ hg6n f6.out (fun _ _ => nofun)
        have hs1 := TZ1.bel.size
        obtain ⟨l1, hl1⟩ : ∃ l1, l1 = l0 ++ [98, 121, 116, 101] := ⟨_, rfl⟩
        replace IB1 : IsBuilder 61 5 w.heap.size gb (byteCells l1) w1 := hl1 ▸ IB1
        have hl1l : l1.length ≤ 1000010 := by rw [hl1]; simp; omega
        replace hl1 := hide hl1
        clear B1 Z1
        gi_wp2_with (first | ((with_reducible refine atI_load 9 ?_); refine wlI_load 9 (round_fn l) rfl (ld9 (cell_row e5 0 (v := .string ⟨#[98, 121, 116, 101]⟩) rfl)) ?_) | ((with_reducible refine atI_load 4 ?_); refine wlI_load 4 (round_fn l) rfl (ld4 (cell_row e5 1 (v := .bool true) rfl)) ?_) | ((with_reducible refine atI_load 24 ?_); refine wlI_load 24 (round_fn l) rfl (load25i e6) ?_) | ((with_reducible refine atI_load 3 ?_); first | (refine wlI_load 3 (round_fn l) rfl (ld3 (cell_row e6 5 (v := .int .i64 x.1.x) rfl)) ?_) | (refine wlI_load 3 (round_fn l) rfl (ld3 (cell_row e6 6 (v := .int .i64 x.1.y) rfl)) ?_) | (refine wlI_load 3 (round_fn l) rfl (ld3 (cell_row e5 2 (v := .int .i64 1) rfl)) ?_)) | ((with_reducible refine atI_bs48 ?_); refine wlI_bs48 (x := x.1.x) (y := x.1.y) (round_fn l) rfl rfl ?_; intro g8 w8 hb8 B8 hg8; replace e5 := (B8.block g5 (Array.getElem?_eq_some_iff.1 e5).1).trans e5; replace e6 := (B8.block g6 (Array.getElem?_eq_some_iff.1 e6).1).trans e6))
        refine ⟨trivial, fun h => (by cases h), (callsIn_wide.2 (CNT.out w1)).mono ?_⟩
        rintro e w2 ⟨rfl, B2⟩
        clear e5 e6
        have IB2 := isB_below IB1 B2
        have TZ2 := TZ1.trans (Tz.below B2 (by omega))
        have e5 := TZ2.keep g5 _ hg5n f5.out (fun _ _ => nofun)
        have e6 := TZ2.keep g6 _ hg6n f6.out (fun _ _ => nofun)
        have hs2 := TZ2.bel.size
        clear B2
        gi_wp2_with (first | ((with_reducible refine atI_load 9 ?_); refine wlI_load 9 (round_fn l) rfl (ld9 (cell_row e5 0 (v := .string ⟨#[98, 121, 116, 101]⟩) rfl)) ?_) | ((with_reducible refine atI_load 4 ?_); refine wlI_load 4 (round_fn l) rfl (ld4 (cell_row e5 1 (v := .bool true) rfl)) ?_) | ((with_reducible refine atI_load 24 ?_); refine wlI_load 24 (round_fn l) rfl (load25i e6) ?_) | ((with_reducible refine atI_load 3 ?_); first | (refine wlI_load 3 (round_fn l) rfl (ld3 (cell_row e6 5 (v := .int .i64 x.1.x) rfl)) ?_) | (refine wlI_load 3 (round_fn l) rfl (ld3 (cell_row e6 6 (v := .int .i64 x.1.y) rfl)) ?_) | (refine wlI_load 3 (round_fn l) rfl (ld3 (cell_row e5 2 (v := .int .i64 1) rfl)) ?_)) | ((with_reducible refine atI_bs48 ?_); refine wlI_bs48 (x := x.1.x) (y := x.1.y) (round_fn l) rfl rfl ?_; intro g8 w8 hb8 B8 hg8; replace e5 := (B8.block g5 (Array.getElem?_eq_some_iff.1 e5).1).trans e5; replace e6 := (B8.block g6 (Array.getElem?_eq_some_iff.1 e6).1).trans e6))
        refine ⟨trivial, fun h => (by cases h), (callsIn_wide.2 (itoa_any cq (by omega) (by omega) w2 (hPW.kept TZ2.bel hP.pos))).mono ?_⟩
        rintro e w3 ⟨rfl, B3⟩
        clear e5 e6
        have IB3 := isB_below IB2 B3
        have TZ3 := TZ2.trans (Tz.below B3 (by omega))
        have e5 := TZ3.keep g5 _ hg5n f5.out (fun _ _ => nofun)
        have e6 := TZ3.keep g6 _ hg6n f6.out (fun _ _ => nofun)
        have hs3 := TZ3.bel.size
        clear B3
        have hsz := spn1_size cq
        have hit := itoa_len cq (by omega) (by omega)
        have hadd := add_spn cq
        gi_wp2_with (first | ((with_reducible refine atI_load 9 ?_); refine wlI_load 9 (round_fn l) rfl (ld9 (cell_row e5 0 (v := .string ⟨#[98, 121, 116, 101]⟩) rfl)) ?_) | ((with_reducible refine atI_load 4 ?_); refine wlI_load 4 (round_fn l) rfl (ld4 (cell_row e5 1 (v := .bool true) rfl)) ?_) | ((with_reducible refine atI_load 24 ?_); refine wlI_load 24 (round_fn l) rfl (load25i e6) ?_) | ((with_reducible refine atI_load 3 ?_); first | (refine wlI_load 3 (round_fn l) rfl (ld3 (cell_row e6 5 (v := .int .i64 x.1.x) rfl)) ?_) | (refine wlI_load 3 (round_fn l) rfl (ld3 (cell_row e6 6 (v := .int .i64 x.1.y) rfl)) ?_) | (refine wlI_load 3 (round_fn l) rfl (ld3 (cell_row e5 2 (v := .int .i64 1) rfl)) ?_)) | ((with_reducible refine atI_bs48 ?_); refine wlI_bs48 (x := x.1.x) (y := x.1.y) (round_fn l) rfl rfl ?_; intro g8 w8 hb8 B8 hg8; replace e5 := (B8.block g5 (Array.getElem?_eq_some_iff.1 e5).1).trans e5; replace e6 := (B8.block g6 (Array.getElem?_eq_some_iff.1 e6).1).trans e6))
        refine ⟨trivial, fun h => (by cases h), (callsIn_wide.2 (ws_any w.heap.size gb l1 (spn1 cq) w3 IB3 (by rw [hsz]; omega) (by omega))).mono ?_⟩
        rintro e w4 ⟨rfl, IB4, B4, Z4⟩
        clear e5 e6
        have TZ4 := TZ3.trans (Tz.bz B4 Z4)
        have e5 := TZ4.keep g5 _ hg5n f5.out (fun _ _ => nofun)
        have e6 := TZ4.keep g6 _ hg6n f6.out (fun _ _ => nofun)
        have hs4 := TZ4.bel.size
        clear B4 Z4 hadd
        obtain ⟨l2, hl2⟩ : ∃ l2, l2 = l1 ++ nums [cq] := ⟨_, rfl⟩
        replace IB4 : IsBuilder 61 5 w.heap.size gb (byteCells l2) w4 := by
          rw [hl2, nums_one]
          exact IB4
        have hl2l : l2.length ≤ 1000040 := by rw [hl2, nums_one]; simp; omega
        replace hl2 := hide hl2
        gi_wp2_with (first | ((with_reducible refine atI_load 9 ?_); refine wlI_load 9 (round_fn l) rfl (ld9 (cell_row e5 0 (v := .string ⟨#[98, 121, 116, 101]⟩) rfl)) ?_) | ((with_reducible refine atI_load 4 ?_); refine wlI_load 4 (round_fn l) rfl (ld4 (cell_row e5 1 (v := .bool true) rfl)) ?_) | ((with_reducible refine atI_load 24 ?_); refine wlI_load 24 (round_fn l) rfl (load25i e6) ?_) | ((with_reducible refine atI_load 3 ?_); first | (refine wlI_load 3 (round_fn l) rfl (ld3 (cell_row e6 5 (v := .int .i64 x.1.x) rfl)) ?_) | (refine wlI_load 3 (round_fn l) rfl (ld3 (cell_row e6 6 (v := .int .i64 x.1.y) rfl)) ?_) | (refine wlI_load 3 (round_fn l) rfl (ld3 (cell_row e5 2 (v := .int .i64 1) rfl)) ?_)) | ((with_reducible refine atI_bs48 ?_); refine wlI_bs48 (x := x.1.x) (y := x.1.y) (round_fn l) rfl rfl ?_; intro g8 w8 hb8 B8 hg8; replace e5 := (B8.block g5 (Array.getElem?_eq_some_iff.1 e5).1).trans e5; replace e6 := (B8.block g6 (Array.getElem?_eq_some_iff.1 e6).1).trans e6))
        have IB8 := isB_below IB4 B8
        have TZ8 := TZ4.trans (Tz.below B8 (by omega))
        have hg8n : g8 ≠ gb := fun e => (by
          subst e
          rcases IB8 with ⟨_, v, hb, _⟩ | ⟨_, v, hb, _⟩ <;> rw [hb8] at hb <;> cases hb)
        have hs8 := TZ8.bel.size
        replace hb8 := hide hb8
        replace IB8 := hide IB8
        replace TZ8 := hide TZ8
        clear e5 e6
        gi_loopw [39] (fun iv wr => ∃ j : Nat, j ≤ 1 ∧ iv = .int .i64 (j : Int) ∧ Hid (IsBuilder 61 5 w.heap.size gb (byteCells (l2 ++ nums ([x.1.x, x.1.y].take j))) wr) ∧ Hid (Tz w.heap.size gb W wr) ∧ Hid (wr.heap[g8]? = some (.cells #[.int .i64 x.1.x, .int .i64 x.1.y] 3 (0, 0)))) (fun iv _ => 1 - (RowKit.intOf iv).toNat)
        case atStart => exact ⟨0, by omega, rfl, by simpa [nums, Hid] using IB8.out, TZ8, hb8⟩
        case round =>
          obtain ⟨j, hj, rfl, IBr, TZr, hbr⟩ := hrel
          rcases (show j = 0 ∨ j = 1 by omega) with rfl | rfl
          · have cz := cell_row hbr.out 0 (v := .int .i64 x.1.x) rfl
            have hsr0 := TZr.out.bel.size
            have hnl : (nums ([x.1.x, x.1.y].take 0)).length ≤ 14 := nums_le x.1.x x.1.y 0 hxy.1 hxy.2.1 hxy.2.2.1 hxy.2.2.2
            generalize hzq : x.1.x = zq at *
            gi_wp2_with (first | ((with_reducible refine atI_load 3 ?_); refine wlI_load 3 (round_fn l) rfl (ld3 cz) ?_))
            refine ⟨trivial, fun h => (by cases h), (callsIn_wide.2 (itoa_any zq (by omega) (by omega) wr (hPW.kept TZr.out.bel hP.pos))).mono ?_⟩
            rintro e w9 ⟨rfl, B9⟩
            have IB9 := hide (isB_below IBr.out B9)
            have TZ9 := TZr.out.trans (Tz.below B9 (by omega))
            have hb9 := hide ((Tz.below (B := w.heap.size) (gb := gb) B9 (by omega)).keep g8 _ hg8n hbr.out (fun _ _ => nofun))
            have hs9 := TZ9.bel.size
            replace TZ9 := hide TZ9
            replace B9 := hide B9
            have hsz := spn1_size zq
            have hit := itoa_len zq (by omega) (by omega)
            have hadd := add_spn zq
            gi_wp2
            refine ⟨trivial, fun h => (by cases h), (callsIn_wide.2 (ws_any w.heap.size gb (l2 ++ nums ([zq, x.1.y].take 0)) (spn1 zq) w9 IB9.out (by rw [hsz, List.length_append]; omega) (by omega))).mono ?_⟩
            rintro e w10 ⟨rfl, IB10, B10, Z10⟩
            have TZ10 := hide (TZ9.out.trans (Tz.bz B10 Z10))
            have hb10 := hide ((Tz.bz B10 Z10).keep g8 _ hg8n hb9.out (fun _ _ => nofun))
            have IBn : Hid (IsBuilder 61 5 w.heap.size gb (byteCells (l2 ++ nums ([zq, x.1.y].take (0 + 1)))) w10) := by
              have e : l2 ++ nums ([zq, x.1.y].take (0 + 1)) = (l2 ++ nums ([zq, x.1.y].take 0)) ++ (spn1 zq).data.toList := by simp [nums, spn1]
              rw [e]
              exact IB10
            clear IB10 B10 Z10
            gi_wp2
            go_roundw
            case rel => exact ⟨0 + 1, by omega, by go_num, IBn, TZ10, hb10⟩
            case measure => simp [RowKit.intOf]
          · have hnl : (nums ([x.1.x, x.1.y].take 1)).length ≤ 14 := nums_le x.1.x x.1.y 1 hxy.1 hxy.2.1 hxy.2.2.1 hxy.2.2.2
            have hsr0 := TZr.out.bel.size
            gi_wp2
            refine ⟨trivial, fun h => (by cases h), (callsIn_wide.2 (wb_any w.heap.size gb (l2 ++ nums ([x.1.x, x.1.y].take 1)) 10 wr IBr.out (by rw [List.length_append]; omega) (by omega))).mono ?_⟩
            rintro e w11 ⟨rfl, IB11, B11, Z11⟩
            have TZ11 := hide (TZr.out.trans (Tz.bz B11 Z11))
            have IBf : Hid (IsBuilder 61 5 w.heap.size gb (byteCells (txtI ((pre ++ [x]).map Subtype.val))) w11) := by
              have e1 : txtI ((pre ++ [x]).map Subtype.val) = txtI (pre.map Subtype.val) ++ lineI x.1 := by simp [txtI]
              rw [e1, ← hl0.out]
              unfold lineI
              rw [hfm]
              simp only [← hcq.out, hl2.out, hl1.out] at IB11 ⊢
              show IsBuilder _ _ _ _ _ _
              simpa [nums] using IB11
            clear IB11 B11 Z11
            gi_wp2
            exact tx_end hi TZ11.out IBf.out hne.symm hs5w

      · obtain ⟨hxy, hsr, CNT⟩ := hprop.out
        replace CNT := hide CNT
        have hfm : fm x.1.op = ⟨⟨#[115, 112, 108, 105, 116]⟩, false, 2⟩ := by rw [hop]; rfl
        rw [hfm] at f5
        have e5 := f5.out
        have e6 := f6.out
        have TZ0 := Tz.refl w.heap.size gb W
        have IB0 := hi.ib
        gi_wp2_with (first | ((with_reducible refine atI_load 9 ?_); refine wlI_load 9 (round_fn l) rfl (ld9 (cell_row e5 0 (v := .string ⟨#[115, 112, 108, 105, 116]⟩) rfl)) ?_) | ((with_reducible refine atI_load 4 ?_); refine wlI_load 4 (round_fn l) rfl (ld4 (cell_row e5 1 (v := .bool false) rfl)) ?_) | ((with_reducible refine atI_load 24 ?_); refine wlI_load 24 (round_fn l) rfl (load25i e6) ?_) | ((with_reducible refine atI_load 3 ?_); first | (refine wlI_load 3 (round_fn l) rfl (ld3 (cell_row e6 5 (v := .int .i64 x.1.x) rfl)) ?_) | (refine wlI_load 3 (round_fn l) rfl (ld3 (cell_row e6 6 (v := .int .i64 x.1.y) rfl)) ?_) | (refine wlI_load 3 (round_fn l) rfl (ld3 (cell_row e5 2 (v := .int .i64 2) rfl)) ?_)) | ((with_reducible refine atI_bs48 ?_); refine wlI_bs48 (x := x.1.x) (y := x.1.y) (round_fn l) rfl rfl ?_; intro g8 w8 hb8 B8 hg8; replace e5 := (B8.block g5 (Array.getElem?_eq_some_iff.1 e5).1).trans e5; replace e6 := (B8.block g6 (Array.getElem?_eq_some_iff.1 e6).1).trans e6))
        refine ⟨trivial, fun h => (by cases h), (callsIn_wide.2 (ws_any w.heap.size gb l0 ⟨#[115, 112, 108, 105, 116]⟩ W IB0 (by show l0.length + 5 ≤ _; omega) hWs)).mono ?_⟩
        rintro e w1 ⟨rfl, IB1, B1, Z1⟩
        clear e5 e6
        have TZ1 := TZ0.trans (Tz.bz B1 Z1)
        have e5 := TZ1.keep g5 _ hg5n f5.out (fun _ _ => nofun)
        have e6 := TZ1.keep g6 _ hg6n f6.out (fun _ _ => nofun)
        have hs1 := TZ1.bel.size
        obtain ⟨l1, hl1⟩ : ∃ l1, l1 = l0 ++ [115, 112, 108, 105, 116] := ⟨_, rfl⟩
        replace IB1 : IsBuilder 61 5 w.heap.size gb (byteCells l1) w1 := hl1 ▸ IB1
        have hl1l : l1.length ≤ 1000010 := by rw [hl1]; simp; omega
        replace hl1 := hide hl1
        clear B1 Z1
        gi_wp2_with (first | ((with_reducible refine atI_load 9 ?_); refine wlI_load 9 (round_fn l) rfl (ld9 (cell_row e5 0 (v := .string ⟨#[115, 112, 108, 105, 116]⟩) rfl)) ?_) | ((with_reducible refine atI_load 4 ?_); refine wlI_load 4 (round_fn l) rfl (ld4 (cell_row e5 1 (v := .bool false) rfl)) ?_) | ((with_reducible refine atI_load 24 ?_); refine wlI_load 24 (round_fn l) rfl (load25i e6) ?_) | ((with_reducible refine atI_load 3 ?_); first | (refine wlI_load 3 (round_fn l) rfl (ld3 (cell_row e6 5 (v := .int .i64 x.1.x) rfl)) ?_) | (refine wlI_load 3 (round_fn l) rfl (ld3 (cell_row e6 6 (v := .int .i64 x.1.y) rfl)) ?_) | (refine wlI_load 3 (round_fn l) rfl (ld3 (cell_row e5 2 (v := .int .i64 2) rfl)) ?_)) | ((with_reducible refine atI_bs48 ?_); refine wlI_bs48 (x := x.1.x) (y := x.1.y) (round_fn l) rfl rfl ?_; intro g8 w8 hb8 B8 hg8; replace e5 := (B8.block g5 (Array.getElem?_eq_some_iff.1 e5).1).trans e5; replace e6 := (B8.block g6 (Array.getElem?_eq_some_iff.1 e6).1).trans e6))
        have IB8 := isB_below IB1 B8
        have TZ8 := TZ1.trans (Tz.below B8 (by omega))
        have hg8n : g8 ≠ gb := fun e => (by
          subst e
          rcases IB8 with ⟨_, v, hb, _⟩ | ⟨_, v, hb, _⟩ <;> rw [hb8] at hb <;> cases hb)
        have hs8 := TZ8.bel.size
        replace hb8 := hide hb8
        replace IB8 := hide IB8
        replace TZ8 := hide TZ8
        clear e5 e6
        gi_loopw [39] (fun iv wr => ∃ j : Nat, j ≤ 2 ∧ iv = .int .i64 (j : Int) ∧ Hid (IsBuilder 61 5 w.heap.size gb (byteCells (l1 ++ nums ([x.1.x, x.1.y].take j))) wr) ∧ Hid (Tz w.heap.size gb W wr) ∧ Hid (wr.heap[g8]? = some (.cells #[.int .i64 x.1.x, .int .i64 x.1.y] 3 (0, 0)))) (fun iv _ => 2 - (RowKit.intOf iv).toNat)
        case atStart => exact ⟨0, by omega, rfl, by simpa [nums, Hid] using IB8.out, TZ8, hb8⟩
        case round =>
          obtain ⟨j, hj, rfl, IBr, TZr, hbr⟩ := hrel
          rcases (show j = 0 ∨ j = 1 ∨ j = 2 by omega) with rfl | rfl | rfl
          · have cz := cell_row hbr.out 0 (v := .int .i64 x.1.x) rfl
            have hsr0 := TZr.out.bel.size
            have hnl : (nums ([x.1.x, x.1.y].take 0)).length ≤ 14 := nums_le x.1.x x.1.y 0 hxy.1 hxy.2.1 hxy.2.2.1 hxy.2.2.2
            generalize hzq : x.1.x = zq at *
            gi_wp2_with (first | ((with_reducible refine atI_load 3 ?_); refine wlI_load 3 (round_fn l) rfl (ld3 cz) ?_))
            refine ⟨trivial, fun h => (by cases h), (callsIn_wide.2 (itoa_any zq (by omega) (by omega) wr (hPW.kept TZr.out.bel hP.pos))).mono ?_⟩
            rintro e w9 ⟨rfl, B9⟩
            have IB9 := hide (isB_below IBr.out B9)
            have TZ9 := TZr.out.trans (Tz.below B9 (by omega))
            have hb9 := hide ((Tz.below (B := w.heap.size) (gb := gb) B9 (by omega)).keep g8 _ hg8n hbr.out (fun _ _ => nofun))
            have hs9 := TZ9.bel.size
            replace TZ9 := hide TZ9
            replace B9 := hide B9
            have hsz := spn1_size zq
            have hit := itoa_len zq (by omega) (by omega)
            have hadd := add_spn zq
            gi_wp2
            refine ⟨trivial, fun h => (by cases h), (callsIn_wide.2 (ws_any w.heap.size gb (l1 ++ nums ([zq, x.1.y].take 0)) (spn1 zq) w9 IB9.out (by rw [hsz, List.length_append]; omega) (by omega))).mono ?_⟩
            rintro e w10 ⟨rfl, IB10, B10, Z10⟩
            have TZ10 := hide (TZ9.out.trans (Tz.bz B10 Z10))
            have hb10 := hide ((Tz.bz B10 Z10).keep g8 _ hg8n hb9.out (fun _ _ => nofun))
            have IBn : Hid (IsBuilder 61 5 w.heap.size gb (byteCells (l1 ++ nums ([zq, x.1.y].take (0 + 1)))) w10) := by
              have e : l1 ++ nums ([zq, x.1.y].take (0 + 1)) = (l1 ++ nums ([zq, x.1.y].take 0)) ++ (spn1 zq).data.toList := by simp [nums, spn1]
              rw [e]
              exact IB10
            clear IB10 B10 Z10
            gi_wp2
            go_roundw
            case rel => exact ⟨0 + 1, by omega, by go_num, IBn, TZ10, hb10⟩
            case measure => simp [RowKit.intOf]
          · have cz := cell_row hbr.out 1 (v := .int .i64 x.1.y) rfl
            have hsr0 := TZr.out.bel.size
            have hnl : (nums ([x.1.x, x.1.y].take 1)).length ≤ 14 := nums_le x.1.x x.1.y 1 hxy.1 hxy.2.1 hxy.2.2.1 hxy.2.2.2
            generalize hzq : x.1.y = zq at *
            gi_wp2_with (first | ((with_reducible refine atI_load 3 ?_); refine wlI_load 3 (round_fn l) rfl (ld3 cz) ?_))
            refine ⟨trivial, fun h => (by cases h), (callsIn_wide.2 (itoa_any zq (by omega) (by omega) wr (hPW.kept TZr.out.bel hP.pos))).mono ?_⟩
            rintro e w9 ⟨rfl, B9⟩
            have IB9 := hide (isB_below IBr.out B9)
            have TZ9 := TZr.out.trans (Tz.below B9 (by omega))
            have hb9 := hide ((Tz.below (B := w.heap.size) (gb := gb) B9 (by omega)).keep g8 _ hg8n hbr.out (fun _ _ => nofun))
            have hs9 := TZ9.bel.size
            replace TZ9 := hide TZ9
            replace B9 := hide B9
            have hsz := spn1_size zq
            have hit := itoa_len zq (by omega) (by omega)
            have hadd := add_spn zq
            gi_wp2
            refine ⟨trivial, fun h => (by cases h), (callsIn_wide.2 (ws_any w.heap.size gb (l1 ++ nums ([x.1.x, zq].take 1)) (spn1 zq) w9 IB9.out (by rw [hsz, List.length_append]; omega) (by omega))).mono ?_⟩
            rintro e w10 ⟨rfl, IB10, B10, Z10⟩
            have TZ10 := hide (TZ9.out.trans (Tz.bz B10 Z10))
            have hb10 := hide ((Tz.bz B10 Z10).keep g8 _ hg8n hb9.out (fun _ _ => nofun))
            have IBn : Hid (IsBuilder 61 5 w.heap.size gb (byteCells (l1 ++ nums ([x.1.x, zq].take (1 + 1)))) w10) := by
              have e : l1 ++ nums ([x.1.x, zq].take (1 + 1)) = (l1 ++ nums ([x.1.x, zq].take 1)) ++ (spn1 zq).data.toList := by simp [nums, spn1]
              rw [e]
              exact IB10
            clear IB10 B10 Z10
            gi_wp2
            go_roundw
            case rel => exact ⟨1 + 1, by omega, by go_num, IBn, TZ10, hb10⟩
            case measure => simp [RowKit.intOf]
          · have hnl : (nums ([x.1.x, x.1.y].take 2)).length ≤ 14 := nums_le x.1.x x.1.y 2 hxy.1 hxy.2.1 hxy.2.2.1 hxy.2.2.2
            have hsr0 := TZr.out.bel.size
            gi_wp2
            refine ⟨trivial, fun h => (by cases h), (callsIn_wide.2 (wb_any w.heap.size gb (l1 ++ nums ([x.1.x, x.1.y].take 2)) 10 wr IBr.out (by rw [List.length_append]; omega) (by omega))).mono ?_⟩
            rintro e w11 ⟨rfl, IB11, B11, Z11⟩
            have TZ11 := hide (TZr.out.trans (Tz.bz B11 Z11))
            have IBf : Hid (IsBuilder 61 5 w.heap.size gb (byteCells (txtI ((pre ++ [x]).map Subtype.val))) w11) := by
              have e1 : txtI ((pre ++ [x]).map Subtype.val) = txtI (pre.map Subtype.val) ++ lineI x.1 := by simp [txtI]
              rw [e1, ← hl0.out]
              unfold lineI
              rw [hfm]
              simp only [hl1.out] at IB11 ⊢
              show IsBuilder _ _ _ _ _ _
              simpa [nums] using IB11
            clear IB11 B11 Z11
            gi_wp2
            exact tx_end hi TZ11.out IBf.out hne.symm hs5w

      · obtain ⟨hxy, hsr, CNT⟩ := hprop.out
        replace CNT := hide CNT
        have hfm : fm x.1.op = ⟨⟨#[101, 110, 100]⟩, false, 0⟩ := by rw [hop]; rfl
        rw [hfm] at f5
        have e5 := f5.out
        have e6 := f6.out
        have TZ0 := Tz.refl w.heap.size gb W
        have IB0 := hi.ib
        gi_wp2_with (first | ((with_reducible refine atI_load 9 ?_); refine wlI_load 9 (round_fn l) rfl (ld9 (cell_row e5 0 (v := .string ⟨#[101, 110, 100]⟩) rfl)) ?_) | ((with_reducible refine atI_load 4 ?_); refine wlI_load 4 (round_fn l) rfl (ld4 (cell_row e5 1 (v := .bool false) rfl)) ?_) | ((with_reducible refine atI_load 24 ?_); refine wlI_load 24 (round_fn l) rfl (load25i e6) ?_) | ((with_reducible refine atI_load 3 ?_); first | (refine wlI_load 3 (round_fn l) rfl (ld3 (cell_row e6 5 (v := .int .i64 x.1.x) rfl)) ?_) | (refine wlI_load 3 (round_fn l) rfl (ld3 (cell_row e6 6 (v := .int .i64 x.1.y) rfl)) ?_) | (refine wlI_load 3 (round_fn l) rfl (ld3 (cell_row e5 2 (v := .int .i64 0) rfl)) ?_)) | ((with_reducible refine atI_bs48 ?_); refine wlI_bs48 (x := x.1.x) (y := x.1.y) (round_fn l) rfl rfl ?_; intro g8 w8 hb8 B8 hg8; replace e5 := (B8.block g5 (Array.getElem?_eq_some_iff.1 e5).1).trans e5; replace e6 := (B8.block g6 (Array.getElem?_eq_some_iff.1 e6).1).trans e6))
        refine ⟨trivial, fun h => (by cases h), (callsIn_wide.2 (ws_any w.heap.size gb l0 ⟨#[101, 110, 100]⟩ W IB0 (by show l0.length + 3 ≤ _; omega) hWs)).mono ?_⟩
        rintro e w1 ⟨rfl, IB1, B1, Z1⟩
        clear e5 e6
        have TZ1 := TZ0.trans (Tz.bz B1 Z1)
        have e5 := TZ1.keep g5 _ hg5n f5.out (fun _ _ => nofun)
        have e6 := TZ1.keep g6 _ hg6n f6.out (fun _ _ => nofun)
        have hs1 := TZ1.bel.size
        obtain ⟨l1, hl1⟩ : ∃ l1, l1 = l0 ++ [101, 110, 100] := ⟨_, rfl⟩
        replace IB1 : IsBuilder 61 5 w.heap.size gb (byteCells l1) w1 := hl1 ▸ IB1
        have hl1l : l1.length ≤ 1000010 := by rw [hl1]; simp; omega
        replace hl1 := hide hl1
        clear B1 Z1
        gi_wp2_with (first | ((with_reducible refine atI_load 9 ?_); refine wlI_load 9 (round_fn l) rfl (ld9 (cell_row e5 0 (v := .string ⟨#[101, 110, 100]⟩) rfl)) ?_) | ((with_reducible refine atI_load 4 ?_); refine wlI_load 4 (round_fn l) rfl (ld4 (cell_row e5 1 (v := .bool false) rfl)) ?_) | ((with_reducible refine atI_load 24 ?_); refine wlI_load 24 (round_fn l) rfl (load25i e6) ?_) | ((with_reducible refine atI_load 3 ?_); first | (refine wlI_load 3 (round_fn l) rfl (ld3 (cell_row e6 5 (v := .int .i64 x.1.x) rfl)) ?_) | (refine wlI_load 3 (round_fn l) rfl (ld3 (cell_row e6 6 (v := .int .i64 x.1.y) rfl)) ?_) | (refine wlI_load 3 (round_fn l) rfl (ld3 (cell_row e5 2 (v := .int .i64 0) rfl)) ?_)) | ((with_reducible refine atI_bs48 ?_); refine wlI_bs48 (x := x.1.x) (y := x.1.y) (round_fn l) rfl rfl ?_; intro g8 w8 hb8 B8 hg8; replace e5 := (B8.block g5 (Array.getElem?_eq_some_iff.1 e5).1).trans e5; replace e6 := (B8.block g6 (Array.getElem?_eq_some_iff.1 e6).1).trans e6))
        have IB8 := isB_below IB1 B8
        have TZ8 := TZ1.trans (Tz.below B8 (by omega))
        have hg8n : g8 ≠ gb := fun e => (by
          subst e
          rcases IB8 with ⟨_, v, hb, _⟩ | ⟨_, v, hb, _⟩ <;> rw [hb8] at hb <;> cases hb)
        have hs8 := TZ8.bel.size
        replace hb8 := hide hb8
        replace IB8 := hide IB8
        replace TZ8 := hide TZ8
        clear e5 e6
        gi_loopw [39] (fun iv wr => ∃ j : Nat, j ≤ 0 ∧ iv = .int .i64 (j : Int) ∧ Hid (IsBuilder 61 5 w.heap.size gb (byteCells (l1 ++ nums ([x.1.x, x.1.y].take j))) wr) ∧ Hid (Tz w.heap.size gb W wr) ∧ Hid (wr.heap[g8]? = some (.cells #[.int .i64 x.1.x, .int .i64 x.1.y] 3 (0, 0)))) (fun iv _ => 0 - (RowKit.intOf iv).toNat)
        case atStart => exact ⟨0, by omega, rfl, by simpa [nums, Hid] using IB8.out, TZ8, hb8⟩
        case round =>
          obtain ⟨j, hj, rfl, IBr, TZr, hbr⟩ := hrel
          obtain rfl : j = 0 := by omega
          have hnl : (nums ([x.1.x, x.1.y].take 0)).length ≤ 14 := nums_le x.1.x x.1.y 0 hxy.1 hxy.2.1 hxy.2.2.1 hxy.2.2.2
          have hsr0 := TZr.out.bel.size
          gi_wp2
          refine ⟨trivial, fun h => (by cases h), (callsIn_wide.2 (wb_any w.heap.size gb (l1 ++ nums ([x.1.x, x.1.y].take 0)) 10 wr IBr.out (by rw [List.length_append]; omega) (by omega))).mono ?_⟩
          rintro e w11 ⟨rfl, IB11, B11, Z11⟩
          have TZ11 := hide (TZr.out.trans (Tz.bz B11 Z11))
          have IBf : Hid (IsBuilder 61 5 w.heap.size gb (byteCells (txtI ((pre ++ [x]).map Subtype.val))) w11) := by
            have e1 : txtI ((pre ++ [x]).map Subtype.val) = txtI (pre.map Subtype.val) ++ lineI x.1 := by simp [txtI]
            rw [e1, ← hl0.out]
            unfold lineI
            rw [hfm]
            simp only [hl1.out] at IB11 ⊢
            show IsBuilder _ _ _ _ _ _
            simpa [nums] using IB11
          clear IB11 B11 Z11
          gi_wp2
          exact tx_end hi TZ11.out IBf.out hne.symm hs5w

      · obtain ⟨hxy, hsr, CNT⟩ := hprop.out
        replace CNT := hide CNT
        have hfm : fm x.1.op = ⟨⟨#[106, 117, 109, 112]⟩, false, 1⟩ := by rw [hop]; rfl
        rw [hfm] at f5
        have e5 := f5.out
        have e6 := f6.out
        have TZ0 := Tz.refl w.heap.size gb W
        have IB0 := hi.ib
        gi_wp2_with (first | ((with_reducible refine atI_load 9 ?_); refine wlI_load 9 (round_fn l) rfl (ld9 (cell_row e5 0 (v := .string ⟨#[106, 117, 109, 112]⟩) rfl)) ?_) | ((with_reducible refine atI_load 4 ?_); refine wlI_load 4 (round_fn l) rfl (ld4 (cell_row e5 1 (v := .bool false) rfl)) ?_) | ((with_reducible refine atI_load 24 ?_); refine wlI_load 24 (round_fn l) rfl (load25i e6) ?_) | ((with_reducible refine atI_load 3 ?_); first | (refine wlI_load 3 (round_fn l) rfl (ld3 (cell_row e6 5 (v := .int .i64 x.1.x) rfl)) ?_) | (refine wlI_load 3 (round_fn l) rfl (ld3 (cell_row e6 6 (v := .int .i64 x.1.y) rfl)) ?_) | (refine wlI_load 3 (round_fn l) rfl (ld3 (cell_row e5 2 (v := .int .i64 1) rfl)) ?_)) | ((with_reducible refine atI_bs48 ?_); refine wlI_bs48 (x := x.1.x) (y := x.1.y) (round_fn l) rfl rfl ?_; intro g8 w8 hb8 B8 hg8; replace e5 := (B8.block g5 (Array.getElem?_eq_some_iff.1 e5).1).trans e5; replace e6 := (B8.block g6 (Array.getElem?_eq_some_iff.1 e6).1).trans e6))
        refine ⟨trivial, fun h => (by cases h), (callsIn_wide.2 (ws_any w.heap.size gb l0 ⟨#[106, 117, 109, 112]⟩ W IB0 (by show l0.length + 4 ≤ _; omega) hWs)).mono ?_⟩
        rintro e w1 ⟨rfl, IB1, B1, Z1⟩
        clear e5 e6
        have TZ1 := TZ0.trans (Tz.bz B1 Z1)
        have e5 := TZ1.keep g5 _ hg5n f5.out (fun _ _ => nofun)
        have e6 := TZ1.keep g6 _ hg6n f6.out (fun _ _ => nofun)
        have hs1 := TZ1.bel.size
        obtain ⟨l1, hl1⟩ : ∃ l1, l1 = l0 ++ [106, 117, 109, 112] := ⟨_, rfl⟩
        replace IB1 : IsBuilder 61 5 w.heap.size gb (byteCells l1) w1 := hl1 ▸ IB1
        have hl1l : l1.length ≤ 1000010 := by rw [hl1]; simp; omega
        replace hl1 := hide hl1
        clear B1 Z1
        gi_wp2_with (first | ((with_reducible refine atI_load 9 ?_); refine wlI_load 9 (round_fn l) rfl (ld9 (cell_row e5 0 (v := .string ⟨#[106, 117, 109, 112]⟩) rfl)) ?_) | ((with_reducible refine atI_load 4 ?_); refine wlI_load 4 (round_fn l) rfl (ld4 (cell_row e5 1 (v := .bool false) rfl)) ?_) | ((with_reducible refine atI_load 24 ?_); refine wlI_load 24 (round_fn l) rfl (load25i e6) ?_) | ((with_reducible refine atI_load 3 ?_); first | (refine wlI_load 3 (round_fn l) rfl (ld3 (cell_row e6 5 (v := .int .i64 x.1.x) rfl)) ?_) | (refine wlI_load 3 (round_fn l) rfl (ld3 (cell_row e6 6 (v := .int .i64 x.1.y) rfl)) ?_) | (refine wlI_load 3 (round_fn l) rfl (ld3 (cell_row e5 2 (v := .int .i64 1) rfl)) ?_)) | ((with_reducible refine atI_bs48 ?_); refine wlI_bs48 (x := x.1.x) (y := x.1.y) (round_fn l) rfl rfl ?_; intro g8 w8 hb8 B8 hg8; replace e5 := (B8.block g5 (Array.getElem?_eq_some_iff.1 e5).1).trans e5; replace e6 := (B8.block g6 (Array.getElem?_eq_some_iff.1 e6).1).trans e6))
        have IB8 := isB_below IB1 B8
        have TZ8 := TZ1.trans (Tz.below B8 (by omega))
        have hg8n : g8 ≠ gb := fun e => (by
          subst e
          rcases IB8 with ⟨_, v, hb, _⟩ | ⟨_, v, hb, _⟩ <;> rw [hb8] at hb <;> cases hb)
        have hs8 := TZ8.bel.size
        replace hb8 := hide hb8
        replace IB8 := hide IB8
        replace TZ8 := hide TZ8
        clear e5 e6
        gi_loopw [39] (fun iv wr => ∃ j : Nat, j ≤ 1 ∧ iv = .int .i64 (j : Int) ∧ Hid (IsBuilder 61 5 w.heap.size gb (byteCells (l1 ++ nums ([x.1.x, x.1.y].take j))) wr) ∧ Hid (Tz w.heap.size gb W wr) ∧ Hid (wr.heap[g8]? = some (.cells #[.int .i64 x.1.x, .int .i64 x.1.y] 3 (0, 0)))) (fun iv _ => 1 - (RowKit.intOf iv).toNat)
        case atStart => exact ⟨0, by omega, rfl, by simpa [nums, Hid] using IB8.out, TZ8, hb8⟩
        case round =>
          obtain ⟨j, hj, rfl, IBr, TZr, hbr⟩ := hrel
          rcases (show j = 0 ∨ j = 1 by omega) with rfl | rfl
          · have cz := cell_row hbr.out 0 (v := .int .i64 x.1.x) rfl
            have hsr0 := TZr.out.bel.size
            have hnl : (nums ([x.1.x, x.1.y].take 0)).length ≤ 14 := nums_le x.1.x x.1.y 0 hxy.1 hxy.2.1 hxy.2.2.1 hxy.2.2.2
            generalize hzq : x.1.x = zq at *
            gi_wp2_with (first | ((with_reducible refine atI_load 3 ?_); refine wlI_load 3 (round_fn l) rfl (ld3 cz) ?_))
            refine ⟨trivial, fun h => (by cases h), (callsIn_wide.2 (itoa_any zq (by omega) (by omega) wr (hPW.kept TZr.out.bel hP.pos))).mono ?_⟩
            rintro e w9 ⟨rfl, B9⟩
            have IB9 := hide (isB_below IBr.out B9)
            have TZ9 := TZr.out.trans (Tz.below B9 (by omega))
            have hb9 := hide ((Tz.below (B := w.heap.size) (gb := gb) B9 (by omega)).keep g8 _ hg8n hbr.out (fun _ _ => nofun))
            have hs9 := TZ9.bel.size
            replace TZ9 := hide TZ9
            replace B9 := hide B9
            have hsz := spn1_size zq
            have hit := itoa_len zq (by omega) (by omega)
            have hadd := add_spn zq
            gi_wp2
            refine ⟨trivial, fun h => (by cases h), (callsIn_wide.2 (ws_any w.heap.size gb (l1 ++ nums ([zq, x.1.y].take 0)) (spn1 zq) w9 IB9.out (by rw [hsz, List.length_append]; omega) (by omega))).mono ?_⟩
            rintro e w10 ⟨rfl, IB10, B10, Z10⟩
            have TZ10 := hide (TZ9.out.trans (Tz.bz B10 Z10))
            have hb10 := hide ((Tz.bz B10 Z10).keep g8 _ hg8n hb9.out (fun _ _ => nofun))
            have IBn : Hid (IsBuilder 61 5 w.heap.size gb (byteCells (l1 ++ nums ([zq, x.1.y].take (0 + 1)))) w10) := by
              have e : l1 ++ nums ([zq, x.1.y].take (0 + 1)) = (l1 ++ nums ([zq, x.1.y].take 0)) ++ (spn1 zq).data.toList := by simp [nums, spn1]
              rw [e]
              exact IB10
            clear IB10 B10 Z10
            gi_wp2
            go_roundw
            case rel => exact ⟨0 + 1, by omega, by go_num, IBn, TZ10, hb10⟩
            case measure => simp [RowKit.intOf]
          · have hnl : (nums ([x.1.x, x.1.y].take 1)).length ≤ 14 := nums_le x.1.x x.1.y 1 hxy.1 hxy.2.1 hxy.2.2.1 hxy.2.2.2
            have hsr0 := TZr.out.bel.size
            gi_wp2
            refine ⟨trivial, fun h => (by cases h), (callsIn_wide.2 (wb_any w.heap.size gb (l1 ++ nums ([x.1.x, x.1.y].take 1)) 10 wr IBr.out (by rw [List.length_append]; omega) (by omega))).mono ?_⟩
            rintro e w11 ⟨rfl, IB11, B11, Z11⟩
            have TZ11 := hide (TZr.out.trans (Tz.bz B11 Z11))
            have IBf : Hid (IsBuilder 61 5 w.heap.size gb (byteCells (txtI ((pre ++ [x]).map Subtype.val))) w11) := by
              have e1 : txtI ((pre ++ [x]).map Subtype.val) = txtI (pre.map Subtype.val) ++ lineI x.1 := by simp [txtI]
              rw [e1, ← hl0.out]
              unfold lineI
              rw [hfm]
              simp only [hl1.out] at IB11 ⊢
              show IsBuilder _ _ _ _ _ _
              simpa [nums] using IB11
            clear IB11 B11 Z11
            gi_wp2
            exact tx_end hi TZ11.out IBf.out hne.symm hs5w

    case done =>
      rintro D xs W hD hS hI hK
      have hS2 : txtI (xs.map Subtype.val) = txtI L := congrArg txtI hS
      rw [hS2] at hI
      have ST := hide (st2_any w.heap.size gb gb (txtI L) W hI.ib (txt_ne hfit.1.1))
      have hDn : D ≠ gb := fun e => by
        subst e
        rcases hI.ib with ⟨_, v, hb, _⟩ | ⟨_, v, hb, _⟩ <;> rw [hK] at hb <;> cases hb
      have hbe := hI.bel
      rw [hres.out] at ST
      clear hI
      replace hK := hide hK
      gi_wp2
      refine ⟨trivial, fun h => (by cases h), (callsIn_wide.2 ST.out).mono ?_⟩
      rintro e w7 ⟨rfl, T7⟩
      have hK7 := hide (T7.keep D _ hDn hK.out (fun _ _ => nofun))
      have hb7 := hbe.trans T7.bel
      gi_wp2
      refine ⟨by simp, .inl ⟨_, _, rfl, run_takeDeferred hK7.out, ?_⟩⟩
      refine ⟨_, results_tmp2 rfl _ _ _, rfl, ?_⟩
      exact hb7.grown (grownBy_putObj' _ _ _) hb7.size (fun k e => by cases e; omega)
    case stop =>
      rintro D c pre W _ _ hh _
      exact hh.elim
  · rw [if_neg hz]
    have hzb : (chkI L != 0) = true := by simpa using hz
    generalize chkI L = ck at *
    replace hL := hide hL
    refine callsIn_of_wp_marks Tryd.func15 rfl trivial ?_ rfl
    simp only [Tryd.ntmps15, List.size_toArray, List.length_cons, List.length_nil, Nat.reduceAdd, Nat.reduceSub, Array.replicate_succ, Array.replicate_zero, List.push_toArray, List.append_toArray, List.nil_append, List.cons_append]
    gi_wp2
    refine ⟨trivial, fun h => (by cases h), (callsIn_wide.2 CK.out).mono ?_⟩
    rintro e w1 ⟨rfl, B1⟩
    gi_wp2
    exact ⟨_, results_tmp2 rfl _ _ _, rfl, B1⟩
theorem text_any (ad : Option Addr) (c : Nat) (L : List Ins) (w : World) (hP : Pw w) (hL : HsI w (fun k => k < w.heap.size) ad L) : Calls Tryd.prog 15 #[.slice ad L.length c] w fun e w' => e = .returned (TextV L) ∧ Below w.heap.size w w' := callsIn_wide.1 (text_in 5 (by omega) ad c L w hP hL)
end Go.Proofs.YtkgegjnkkbgghaaDoor
