/-
  What is read, time by time; the iterator over times.
-/
import Derived.Test.YtpopkoedeckfoaaDoorSW
namespace Go.Proofs.YtpopkoedeckfoaaDoor
open Go.RowKit Go.Shelf
set_option linter.unusedVariables false
set_option linter.unusedSimpArgs false
attribute [local go_sem] Oper.semAt_some

/-- The state, the place and the times behind i times; or the error. -/
def rdA (V N : Nat) : Nat → Sum (Nat × Nat × Nat × List Int) Nat
  | 0 => .inl (0, 0, 0, [])
  | i + 1 => match rdA V N i with
    | .inr e => .inr e
    | .inl (L, D, P, ts) => if (gtm i L D V N P).1 = 0 then .inl ((gtm i L D V N P).2.1, dl i L (gtm i L D V N P).2.1, P + (gtm i L D V N P).2.2, ts ++ [((gtm i L D V N P).2.1 : Int)]) else .inr (gtm i L D V N P).1
theorem rdA_ok {V N i L D P t k : Nat} {ts : List Int} (h : rdA V N i = .inl (L, D, P, ts)) (hg : gtm i L D V N P = (0, t, k)) : rdA V N (i + 1) = .inl (t, dl i L t, P + k, ts ++ [(t : Int)]) := by
  simp only [rdA, h, hg, if_true]
theorem rdA_err {V N i L D P e t k : Nat} {ts : List Int} (h : rdA V N i = .inl (L, D, P, ts)) (hg : gtm i L D V N P = (e, t, k)) (he : e ≠ 0) : rdA V N (i + 1) = .inr e := by
  simp only [rdA, h, hg, if_neg he]
theorem rdA_stuck {V N i e : Nat} (h : rdA V N i = .inr e) : ∀ {n}, i ≤ n → rdA V N n = .inr e := by
  intro n hn
  induction n with
  | zero => obtain rfl : i = 0 := by omega
            exact h
  | succ n ih =>
    rcases Nat.lt_or_ge i (n + 1) with h1 | h1
    · simp only [rdA, ih (by omega)]
    · obtain rfl : i = n + 1 := by omega
      exact h
theorem rdA_fine {V N : Nat} : ∀ {i L D P : Nat} {ts : List Int}, rdA V N i = .inl (L, D, P, ts) → i ≤ 4096 → OkS i L D ∧ P ≤ 8 * N ∧ ts.length = i := by
  intro i
  induction i with
  | zero =>
    intro L D P ts h _
    simp only [rdA, Sum.inl.injEq, Prod.mk.injEq] at h
    obtain ⟨rfl, rfl, rfl, rfl⟩ := h
    exact ⟨⟨by omega, by omega, by omega⟩, by omega, rfl⟩
  | succ i ih =>
    intro L D P ts h hi
    cases h0 : rdA V N i with
    | inr e => simp only [rdA, h0] at h; cases h
    | inl r =>
      obtain ⟨L0, D0, P0, ts0⟩ := r
      obtain ⟨h1, h2, h3⟩ := ih h0 (by omega)
      rcases hg : gtm i L0 D0 V N P0 with ⟨e, t, k⟩
      by_cases he : e = 0
      · subst he
        rw [rdA_ok h0 hg] at h
        simp only [Sum.inl.injEq, Prod.mk.injEq] at h
        obtain ⟨rfl, rfl, rfl, rfl⟩ := h
        obtain ⟨g1, g2, g3, g4⟩ := gtm_ok hg
        exact ⟨ok_next h1 g1 (by omega), by omega, by simp [h3]⟩
      · rw [rdA_err h0 hg he] at h; cases h

/-- What a round leaves alone. -/
structure KpR (n₀ : Nat) (A B : World) : Prop where
  bel : Below n₀ A B
  keep : ∀ (k : Nat) (cs : Array Value) (t : TypeId) (fr : Nat × Nat), A.heap[k]? = some (Obj.cells cs t fr) → t = 86 ∨ t = 5 ∨ t = 23 ∨ t = 45 → B.heap[k]? = some (Obj.cells cs t fr)
theorem KpR.trans {n₀ : Nat} {A B C : World} (h : KpR n₀ A B) (k : KpR n₀ B C) : KpR n₀ A C := ⟨h.bel.trans k.bel, fun i cs t fr hi ht => k.keep _ _ _ _ (h.keep _ _ _ _ hi ht) ht⟩
theorem KpR.put {n₀ : Nat} {w : World} (hn : n₀ ≤ w.heap.size) (W : World) (l : Nat) (o o' : Obj) (hl : w.heap.size ≤ l) (h : W.heap[l]? = some o) (hc : o.isCells = false) (hw : o.isWalk = false) : KpR n₀ W (W.putObj l o') :=
  ⟨belowK_b hn W l o o' hl h hc hw, fun k cs t fr hk _ => by
    have hne : k ≠ l := fun e => by rw [e, h] at hk; cases hk; cases hc
    exact (World.putObj_heap_other hne).trans hk⟩
theorem KpR.rd {n₀ base q P : Nat} {A B : World} {v : Value} {l : List Int} (h : KpR n₀ A B) (r : Rd A base q v l P) : Rd B base q v l P := by
  refine ⟨⟨h.keep _ _ _ _ r.1.heap (.inl rfl), r.1.ge, ?_, r.1.ne⟩, r.2⟩
  refine ⟨r.1.own.1, ?_⟩
  rcases r.1.own.2 with h1 | ⟨g, cap, cur, e, h2, h3, h4⟩
  · exact .inl h1
  · exact .inr ⟨g, cap, cur, e, h2, h.keep _ _ _ _ h3 (.inr (.inl rfl)), h4⟩
theorem box3_of_heap {w : World} {g : Nat} {x y z : Value} {t : TypeId} (h : w.heap[g]? = some (.cells #[x, y, z] t (0, 0))) : Box3 w g x y z := by
  have hlt := (Array.getElem?_eq_some_iff.1 h).1
  refine ⟨?_, ?_, ?_, ?_, ?_, ?_, hlt⟩
  · rw [cell_of_row w g 0 _ t (0, 0) h]; rfl
  · rw [cell_of_row w g 1 _ t (0, 0) h]; rfl
  · rw [cell_of_row w g 2 _ t (0, 0) h]; rfl
  · exact frozen_of_row w g 0 _ t h
  · exact frozen_of_row w g 1 _ t h
  · exact frozen_of_row w g 2 _ t h
theorem heap_set3 {w : World} {g : Nat} {x y z : Value} {t : TypeId} (h : w.heap[g]? = some (.cells #[x, y, z] t (0, 0))) (a b c : Value) : (((w.setCell ⟨g, 0, none⟩ a).setCell ⟨g, 1, none⟩ b).setCell ⟨g, 2, none⟩ c).heap[g]? = some (.cells #[a, b, c] t (0, 0)) := by
  rw [heap_setCell_same _ g 2 #[a, b, z] t _ (by
    rw [heap_setCell_same _ g 1 #[a, y, z] t _ (by
      rw [heap_setCell_same _ g 0 #[x, y, z] t _ h]; rfl)]; rfl)]
  rfl
theorem grown_of_but {p : Nat} {A B : World} (h : But (fun k => k = p) A B) : A.grownBy B (some p) := ⟨h.os, h.tape, h.output, h.size, fun k hk hne => h.block k hk (fun e => hne (by rw [e]))⟩

def okPairs (ts : List Int) : List (Int × Nat) := ts.map (fun t => (t, 0))
theorem okPairs_snoc (ts : List Int) (t : Int) : okPairs (ts ++ [t]) = okPairs ts ++ [(t, 0)] := by simp [okPairs]
/-- All was given; or an error was, and the body went on. -/
def FinT (V N m : Nat) (xs : List (Int × Nat)) : Prop := (∃ L D P ts, rdA V N m = .inl (L, D, P, ts) ∧ xs = okPairs ts) ∨ (∃ x, x ∈ xs ∧ x.2 ≠ 0)
/-- The body did not go on. -/
def StpT (V N m : Nat) (pre : List (Int × Nat)) : Prop := ∃ i L D P ts x, i < m ∧ rdA V N i = .inl (L, D, P, ts) ∧ pre = okPairs ts ++ [x] ∧ (x.2 ≠ 0 → rdA V N (i + 1) = .inr x.2)

set_option maxHeartbeats 1000000 in
theorem times_in (n q : Nat) (m : Int) (w : World) :
    CallsIn Fence.wide n Tryd.prog 48 #[.pointer (some ⟨q, 0, none⟩), .int .i64 m] w fun e w' => e = .returned (.func (.func 53) #[] #[.pointer (some ⟨w.heap.size + 1, 0, none⟩), .pointer (some ⟨w.heap.size, 0, none⟩)]) ∧ w' = (w.alloc (.cells #[.pointer (some ⟨q, 0, none⟩)] 45)).alloc (.cells #[.int .i64 m] 3) := by
  refine callsIn_of_wp Tryd.func48 rfl trivial ?_ rfl
  simp only [Tryd.ntmps48, List.size_toArray, List.length_cons, List.length_nil, Nat.reduceAdd, Nat.reduceSub, Array.replicate_succ, Array.replicate_zero, List.push_toArray, List.append_toArray, List.nil_append, List.cons_append]
  gi_wp2
  go_ret
  exact ⟨rfl, rfl⟩

set_option maxRecDepth 100000 in
set_option maxHeartbeats 4000000 in
theorem times1_in (n : Nat) (hn : 1 ≤ n) (l B1 B2 base q m : Nat) (v : Value) (lb : List Int) (J Jx : List (Int × Nat) → World → Prop) (hm : m ≤ 4096) (W : World) (hJ : StaysQ W.heap.size q J)
    (hY : ∀ pre x W1, J pre W1 → W.heap.size < W1.heap.size → pre.length < 4096 → YieldAt Fence.wide (n - 1) Tryd.prog l #[.int .i64 x.1, .int .i64 (x.2 : Int)] W1 fun e W' =>
      (e = .returned (.bool true) ∧ J (pre ++ [x]) W' ∧ KpR base W1 W') ∨ (e = .returned (.bool false) ∧ Jx (pre ++ [x]) W'))
    (hR : Rd W base q v lb 0) (hT : Tab W) (hb0 : 0 < base) (hB1 : W.cell? ⟨B1, 0, none⟩ = some (.int .i64 (m : Int))) (hB2 : W.heap[B2]? = some (.cells #[.pointer (some ⟨q, 0, none⟩)] 45 (0, 0))) (hq2 : B2 ≠ q) (hJ0 : J [] W) :
    CallsIn Fence.wide n Tryd.prog 53 #[.func (.yield l) #[] #[], .pointer (some ⟨B1, 0, none⟩), .pointer (some ⟨B2, 0, none⟩)] W fun e W' => (∃ v, e = .returned v) ∧
      ((∃ xs, FinT (num lb) lb.length m xs ∧ J xs W') ∨ (∃ pre, StpT (num lb) lb.length m pre ∧ Jx pre W')) := by
  have hz23 := zero23
  have A0 : Below W.heap.size W (W.alloc (.cells #[.int .i64 0, .int .i64 0, .int .i64 0] 23)) := (Below.refl _ W).alloc (Nat.le_refl _) _
  have c1 : (W.alloc (.cells #[.int .i64 0, .int .i64 0, .int .i64 0] 23)).cell? ⟨B1, 0, none⟩ = some (.int .i64 (m : Int)) := (A0.cell (p := ⟨B1, 0, none⟩) (World.block_lt_of_cell? W _ hB1)).trans hB1
  have R0 := hide (hR.below A0 (Nat.le_refl _))
  have T0 := hide (hT.kept A0 hT.pos)
  have J0 := hide (hJ _ _ _ none hJ0 (World.grownBy_alloc W (.cells #[.int .i64 0, .int .i64 0, .int .i64 0] 23) none) (fun r e => by cases e))
  have D0 : Hid ((W.alloc (.cells #[.int .i64 0, .int .i64 0, .int .i64 0] 23)).heap[B2]? = some (.cells #[.pointer (some ⟨q, 0, none⟩)] 45 (0, 0))) := (A0.block _ (Array.getElem?_eq_some_iff.1 hB2).1).trans hB2
  have S0 : Hid ((W.alloc (.cells #[.int .i64 0, .int .i64 0, .int .i64 0] 23)).heap[W.heap.size]? = some (.cells #[.int .i64 0, .int .i64 0, .int .i64 0] 23 (0, 0))) := heap_alloc_new W _
  have hgq : Hid (W.heap.size ≠ q ∧ W.heap.size ≠ B2) := by have := hR.lt; have := (Array.getElem?_eq_some_iff.1 hB2).1; exact ⟨by omega, by omega⟩
  have hgf : Hid (¬ fp q v W.heap.size) := fun hf => by have := (hR.1.fplt _ hf).2; omega
  have hbW : Hid (base ≤ W.heap.size) := by have := hR.lt; show _ ≤ _; omega
  clear hR hT hB1 hB2 hJ0 A0
  replace hJ := hide hJ
  replace hY := hide hY
  replace hb0 := hide hb0
  refine callsIn_of_wp Tryd.func53 rfl trivial ?_ rfl
  simp only [Tryd.ntmps53, List.size_toArray, List.length_cons, List.length_nil, Nat.reduceAdd, Nat.reduceSub, Array.replicate_succ, Array.replicate_zero, List.push_toArray, List.append_toArray, List.nil_append, List.cons_append]
  gi_wp2
  gi_loopw [9] (fun iv wr => ∃ (i L D P : Nat) (ts : List Int), i ≤ m ∧ iv = .int .i64 (i : Int) ∧ Hid (rdA (num lb) lb.length i = .inl (L, D, P, ts)) ∧ Hid (J (okPairs ts) wr) ∧ Hid (Rd wr base q v lb P) ∧ Hid (Tab wr) ∧ Hid (wr.heap[B2]? = some (.cells #[.pointer (some ⟨q, 0, none⟩)] 45 (0, 0))) ∧ Hid (wr.heap[W.heap.size]? = some (.cells #[.int .i64 (i : Int), .int .i64 (L : Int), .int .i64 (D : Int)] 23 (0, 0)))) (fun iv _ => m - (intOf iv).toNat)
  case atStart => exact ⟨0, 0, 0, 0, [], Nat.zero_le _, rfl, rfl, J0, R0, T0, D0, S0⟩
  case round =>
    clear J0 R0 T0 D0 S0 c1
    obtain ⟨i, L, D, P, ts, hi, rfl, hA, Js, R, T, DD, S⟩ := hrel
    by_cases hlt : i < m
    · obtain ⟨hok, hP8, hts⟩ := rdA_fine hA.out (by omega)
      have j1 : (i : Int) < (m : Int) := by omega
      have GE := hide (getS R.out T.out hb0.out hok)
      have x0 := (Boxed.cell DD.out)
      have s0 := (box3_of_heap S.out).c0
      have s1 := (box3_of_heap S.out).c1
      have s2 := (box3_of_heap S.out).c2
      replace hok := hide hok
      gi_wp2
      refine ⟨trivial, (callsIn_wide.2 GE.out).mono ?_⟩
      rintro e w4 ⟨er, t, k, hg, her, h0, h1, b4⟩
      clear GE x0 s0 s1 s2
      have J4 := hide (hJ.out _ _ _ (some q) Js.out (grown_of_but b4) (fun r e => .inl (by cases e; rfl)))
      have T4 := T.out.but b4 (by have := R.out.lt; have := hb0.out; omega)
      have D4 := (b4.block B2 (Array.getElem?_eq_some_iff.1 DD.out).1 hq2).trans DD.out
      have S4 := (b4.block W.heap.size (Array.getElem?_eq_some_iff.1 S.out).1 hgq.out.1).trans S.out
      have hsz4 : W.heap.size < w4.heap.size := (Array.getElem?_eq_some_iff.1 S4).1
      by_cases her0 : er = 0
      · subst her0
        obtain ⟨rfl, R4⟩ := h0 rfl
        have hA' := hide (rdA_ok hA.out hg)
        clear h0 h1 her
        replace hg := hide hg
        obtain ⟨qq, hqq⟩ : ∃ qq, dl i L t = qq := ⟨_, rfl⟩
        obtain ⟨i1, hi1⟩ : ∃ i1, i + 1 = i1 := ⟨_, rfl⟩
        rw [hqq, hi1]
        rw [hqq, hi1] at hA'
        have b5 := but3 w4 W.heap.size (.int .i64 (i1 : Int)) (.int .i64 (t : Int)) (.int .i64 (qq : Int))
        have J5 := hJ.out _ _ _ (some W.heap.size) J4.out (grown_of_but b5) (fun r e => .inr (.inl (by cases e; rfl)))
        have R5 := R4.but b5 hgf.out
        have T5 := T4.but b5 (by have := hbW.out; have := hb0.out; omega)
        have D5 := (b5.block B2 (Array.getElem?_eq_some_iff.1 D4).1 (fun e => hgq.out.2 e.symm)).trans D4
        have S5 := heap_set3 S4 (.int .i64 (i1 : Int)) (.int .i64 (t : Int)) (.int .i64 (qq : Int))
        have hsz5 := Nat.lt_of_lt_of_le hsz4 b5.size
        obtain ⟨r0, r1, r2, r3, r4, r5, r6⟩ := box3_of_heap S4
        have r7 := (box3_of_heap S4).o1
        have r8 := (box3_of_heap S4).o2
        have hYY : YieldAt Fence.wide (n - 1) Tryd.prog l #[.int .i64 (t : Int), .int .i64 0] _ _ := hY.out _ ((t : Int), 0) _ J5 hsz5 (by simp [okPairs]; omega)
        obtain ⟨fn, tmps, assign, body, hy', hRR⟩ := hYY
        replace J5 := hide J5
        replace R5 := hide R5
        replace T5 := hide T5
        replace D5 := hide D5
        replace S5 := hide S5
        replace hsz5 := hide hsz5
        have j2 : (i : Int) + 1 = (i1 : Int) := by omega
        have j3 : i1 ≤ m := by omega
        replace hqq := hide hqq
        replace hi1 := hide hi1
        clear R4 T4 D4 S4 b4 b5 J4 hsz4
        gi_wp2
        refine hRR.mono ?_
        rintro e W3 (⟨rfl, hJ3, hk3⟩ | ⟨rfl, hJx3⟩)
        · have R6 := hide (hk3.rd R5.out)
          have T6 := hide (T5.out.kept hk3.bel hb0.out)
          have D6 := hide (hk3.keep _ _ _ _ D5.out (.inr (.inr (.inr rfl))))
          have S6 := hide (hk3.keep _ _ _ _ S5.out (.inr (.inr (.inl rfl))))
          have J6 : Hid (J (okPairs (ts ++ [(t : Int)])) W3) := by show J _ _; rw [okPairs_snoc]; exact hJ3
          clear hk3 hJ3 hRR hy'
          gi_wp2
          go_roundw
          case rel => exact ⟨i1, t, qq, P + k, ts ++ [(t : Int)], j3, by go_num, hA', J6, R6, T6, D6, S6⟩
          case measure => simp [intOf]; omega
        · clear hRR hy'
          gi_wp2
          refine bodyPost_ret (results_none rfl _ _ _) rfl ?_
          exact ⟨⟨_, rfl⟩, .inr ⟨_, ⟨i, L, D, P, ts, _, hlt, hA.out, rfl, fun h => absurd rfl h⟩, hJx3⟩⟩
      · obtain ⟨rfl, R4⟩ := h1 her0
        have hA' := hide (rdA_err hA.out hg her0)
        clear h0 h1
        replace hg := hide hg
        have b5 := but3 w4 W.heap.size (.int .i64 0) (.int .i64 0) (.int .i64 0)
        have J5 := hJ.out _ _ _ (some W.heap.size) J4.out (grown_of_but b5) (fun r e => .inr (.inl (by cases e; rfl)))
        have hsz5 := Nat.lt_of_lt_of_le hsz4 b5.size
        obtain ⟨r0, r1, r2, r3, r4, r5, r6⟩ := box3_of_heap S4
        have r7 := (box3_of_heap S4).o1
        have r8 := (box3_of_heap S4).o2
        have hYY : YieldAt Fence.wide (n - 1) Tryd.prog l #[.int .i64 0, .int .i64 (er : Int)] _ _ := hY.out _ (0, er) _ J5 hsz5 (by simp [okPairs]; omega)
        obtain ⟨fn, tmps, assign, body, hy', hRR⟩ := hYY
        replace J5 := hide J5
        have j3 : ((er : Int) != 0) = true := by rw [bne_iff_ne]; omega
        clear R4 T4 D4 S4 b4 b5 J4 hsz4 hsz5 her
        gi_wp2
        refine hRR.mono ?_
        rintro e W3 (⟨rfl, hJ3, hk3⟩ | ⟨rfl, hJx3⟩)
        · clear hk3 hRR hy'
          gi_wp2
          refine bodyPost_ret (results_none rfl _ _ _) rfl ?_
          exact ⟨⟨_, rfl⟩, .inl ⟨_, .inr ⟨(0, er), by simp, her0⟩, hJ3⟩⟩
        · clear hRR hy'
          gi_wp2
          refine bodyPost_ret (results_none rfl _ _ _) rfl ?_
          exact ⟨⟨_, rfl⟩, .inr ⟨_, ⟨i, L, D, P, ts, _, hlt, hA.out, rfl, fun h => hA'.out⟩, hJx3⟩⟩
    · obtain rfl : i = m := by omega
      have j1 : ¬ (i : Int) < (i : Int) := by omega
      gi_wp2
      go_end0
      exact ⟨⟨_, rfl⟩, .inl ⟨_, .inl ⟨L, D, P, ts, hA.out, rfl⟩, Js.out⟩⟩
end Go.Proofs.YtpopkoedeckfoaaDoor
