/-
  What is read, value by value; the iterator over values.
-/
import Derived.Test.YtmddkinecplooaaDoorYW
namespace Go.Proofs.YtmddkinecplooaaDoor
open Go.RowKit Go.Shelf
set_option linter.unusedVariables false
set_option linter.unusedSimpArgs false
attribute [local go_sem] Oper.semAt_some

/-- The state, the place and the values behind i values. -/
def rdA (V N : Nat) : Nat → Option (Nat × Nat × Nat × Nat × List Int)
  | 0 => some (0, 64, 0, 0, [])
  | i + 1 => match rdA V N i with
    | none => none
    | some (L, a, b, P, ts) => match gX i L a b V N P with
      | none => none
      | some (v, k, a', b') => some (v, a', b', P + k, ts ++ [(v : Int)])
theorem rdA_ok {V N i L a b P v k a' b' : Nat} {ts : List Int} (h : rdA V N i = some (L, a, b, P, ts)) (hg : gX i L a b V N P = some (v, k, a', b')) : rdA V N (i + 1) = some (v, a', b', P + k, ts ++ [(v : Int)]) := by
  simp only [rdA, h, hg]
theorem rdA_err {V N i L a b P : Nat} {ts : List Int} (h : rdA V N i = some (L, a, b, P, ts)) (hg : gX i L a b V N P = none) : rdA V N (i + 1) = none := by
  simp only [rdA, h, hg]
theorem rdA_stuck {V N i : Nat} (h : rdA V N i = none) : ∀ {n}, i ≤ n → rdA V N n = none := by
  intro n hn
  induction n with
  | zero => obtain rfl : i = 0 := by omega
            exact h
  | succ n ih =>
    rcases Nat.lt_or_ge i (n + 1) with h1 | h1
    · simp only [rdA, ih (by omega)]
    · obtain rfl : i = n + 1 := by omega
      exact h
theorem rdA_fine {V N : Nat} : ∀ {i L a b P : Nat} {ts : List Int}, rdA V N i = some (L, a, b, P, ts) → i ≤ 4096 → OkS i a b ∧ L < 18446744073709551616 ∧ P ≤ 8 * N ∧ ts.length = i ∧ ∀ x ∈ ts, 0 ≤ x ∧ x < 18446744073709551616 := by
  intro i
  induction i with
  | zero =>
    intro L a b P ts h _
    simp only [rdA, Option.some.injEq, Prod.mk.injEq] at h
    obtain ⟨rfl, rfl, rfl, rfl, rfl⟩ := h
    exact ⟨⟨by omega, .inl ⟨rfl, rfl⟩⟩, by decide, by omega, rfl, fun x hx => by simp at hx⟩
  | succ i ih =>
    intro L a b P ts h hi
    cases h0 : rdA V N i with
    | none => simp only [rdA, h0] at h; cases h
    | some r =>
      obtain ⟨L0, a0, b0, P0, ts0⟩ := r
      obtain ⟨h1, h2, h3, h4, h5⟩ := ih h0 (by omega)
      cases hg : gX i L0 a0 b0 V N P0 with
      | none => rw [rdA_err h0 hg] at h; cases h
      | some q =>
        obtain ⟨v, k, a', b'⟩ := q
        rw [rdA_ok h0 hg] at h
        simp only [Option.some.injEq, Prod.mk.injEq] at h
        obtain ⟨rfl, rfl, rfl, rfl, rfl⟩ := h
        obtain ⟨g1, g2, g3, g4, g5, g6⟩ := gX_ok h1.w h2 hg
        refine ⟨by rw [g3, g4]; exact ok_next h1 h2 g1 (by omega), g1, by omega, by simp [h4], fun x hx => ?_⟩
        rcases List.mem_append.1 hx with hx | hx
        · exact h5 x hx
        · simp at hx; subst hx; omega

/-- What a round leaves alone. -/
structure KpR (n₀ : Nat) (A B : World) : Prop where
  bel : Below n₀ A B
  keep : ∀ (k : Nat) (cs : Array Value) (t : TypeId) (fr : Nat × Nat), A.heap[k]? = some (Obj.cells cs t fr) → t = 88 ∨ t = 5 ∨ t = 24 ∨ t = 48 → B.heap[k]? = some (Obj.cells cs t fr)
theorem KpR.trans {n₀ : Nat} {A B C : World} (h : KpR n₀ A B) (k : KpR n₀ B C) : KpR n₀ A C := ⟨h.bel.trans k.bel, fun i cs t fr hi ht => k.keep _ _ _ _ (h.keep _ _ _ _ hi ht) ht⟩
theorem KpR.put {n₀ : Nat} {w : World} (hn : n₀ ≤ w.heap.size) (W : World) (l : Nat) (o o' : Obj) (hl : w.heap.size ≤ l) (h : W.heap[l]? = some o) (hc : o.isCells = false) (hw : o.isWalk = false) : KpR n₀ W (W.putObj l o') :=
  ⟨belowK_b hn W l o o' hl h hc hw, fun k cs t fr hk _ => by
    have hne : k ≠ l := fun e => by rw [e, h] at hk; cases hk; cases hc
    exact (World.putObj_heap_other hne).trans hk⟩
theorem KpR.rd {n₀ base q P : Nat} {A B : World} {v : Value} {l : List Int} (h : KpR n₀ A B) (r : Rd A base q v l P) : Rd B base q v l P := by
  refine ⟨⟨h.keep _ _ _ _ r.1.heap (.inl rfl), r.1.ge, ?_, r.1.ne⟩, r.2⟩
  refine ⟨r.1.own.1, ?_⟩
  rcases r.1.own.2 with h1 | ⟨g, cap, cur, e, h2, h3, h4⟩
  · exact .inl h1
  · exact .inr ⟨g, cap, cur, e, h2, h.keep _ _ _ _ h3 (.inr (.inl rfl)), h4⟩
theorem grown_of_but {p : Nat} {A B : World} (h : But (fun k => k = p) A B) : A.grownBy B (some p) := ⟨h.os, h.tape, h.output, h.size, fun k hk hne => h.block k hk (fun e => hne (by rw [e]))⟩
theorem grown_of_did {base p : Nat} {A B : World} (h : Did A B base p nul nul) : A.grownBy B (some p) := ⟨h.but.os, h.but.tape, h.but.output, h.but.size, fun k hk hne => h.but.block k hk (fun e => hne (by rw [fp_nul e]))⟩
theorem grown_of_below {A B : World} (h : Below A.heap.size A B) : A.grownBy B none := ⟨h.os, h.tape, h.output, h.size, fun k hk _ => h.block k hk⟩

def okPairs (ts : List Int) : List (Int × Nat) := ts.map (fun t => (t, 0))
theorem okPairs_snoc (ts : List Int) (t : Int) : okPairs (ts ++ [t]) = okPairs ts ++ [(t, 0)] := by simp [okPairs]
/-- All was given; or an error was, and the body went on. -/
def FinT (V N m : Nat) (xs : List (Int × Nat)) : Prop := (∃ L a b P ts, rdA V N m = some (L, a, b, P, ts) ∧ xs = okPairs ts) ∨ (∃ x, x ∈ xs ∧ x.2 ≠ 0)
/-- The body did not go on. -/
def StpT (V N m : Nat) (pre : List (Int × Nat)) : Prop := ∃ i L a b P ts x, i < m ∧ rdA V N i = some (L, a, b, P, ts) ∧ pre = okPairs ts ++ [x] ∧ (x.2 ≠ 0 → rdA V N (i + 1) = none ∧ x.2 = 50)

theorem none_ex (w : World) : Calls Tryd.prog 44 #[] w fun e w' => e = .returned (.agg #[.int .i64 64, .int .i64 0]) ∧ w' = w.alloc (.cells #[.int .i64 64, .int .i64 0] 81) := by
  have hz := zero81
  have XX := Bx.new w 81 #[.int .i64 0, .int .i64 0]
  have X2 := (XX.set2 (.int .i64 64) (.int .i64 0)).st2
  obtain ⟨p0, p1, p2, p3, p4⟩ := XX.st2
  have o0 := X2.c0
  have o1 := X2.c1
  go_enter Tryd.func44, Tryd.ntmps44
  go_wp2_with fail
  refine bodyPost_ret (v := .agg #[.int .i64 64, .int .i64 0]) (by simp [results, Tryd.f44, go_sem, o0, o1]) rfl ?_
  exact ⟨rfl, rfl⟩
set_option maxHeartbeats 1000000 in
theorem begin_ex (w : World) : Calls Tryd.prog 19 #[] w fun e w' => e = .returned (.agg #[.int .i64 0, .int .u64 0, .int .i64 64, .int .i64 0]) ∧ Below w.heap.size w w' ∧ w'.heap.size = w.heap.size + 3 := by
  have hz := zero24
  have hf0 := field81_0
  have hf1 := field81_1
  have X0 := hide (Bx.new w 24 #[.int .i64 0, .int .u64 0, .int .i64 0, .int .i64 0])
  have B0 : Hid (Below w.heap.size w (w.alloc (.cells #[.int .i64 0, .int .u64 0, .int .i64 0, .int .i64 0] 24))) := (Below.refl _ w).alloc (Nat.le_refl _) _
  go_enter Tryd.func19, Tryd.ntmps19
  go_wp2_with fail
  refine (none_ex _).mono ?_
  rintro e w1 ⟨rfl, hw1⟩
  have b1 : Below (w.alloc (.cells #[.int .i64 0, .int .u64 0, .int .i64 0, .int .i64 0] 24)).heap.size (w.alloc (.cells #[.int .i64 0, .int .u64 0, .int .i64 0, .int .i64 0] 24)) w1 := by rw [hw1]; exact (Below.refl _ _).alloc (Nat.le_refl _) _
  have z1 : Hid (w1.heap.size = w.heap.size + 2) := by show _ = _; rw [hw1]; simp
  have B1 := hide (B0.out.trans (b1.mono B0.out.size))
  have X1 := hide (X0.out.below b1)
  clear B0 X0 b1 hw1
  go_wp2_with fail
  refine (none_ex _).mono ?_
  rintro e w2 ⟨rfl, hw2⟩
  have b2 : Below w1.heap.size w1 w2 := by rw [hw2]; exact (Below.refl _ _).alloc (Nat.le_refl _) _
  have z2 : Hid (w2.heap.size = w.heap.size + 3) := by show _ = _; rw [hw2]; simp [z1.out]
  have B2 := hide (B1.out.trans (b2.mono B1.out.size))
  have X2 := hide (X1.out.below b2)
  clear B1 X1 b2 hw2 z1
  have X3 := (X2.out.set4 (.int .i64 0) (.int .u64 0) (.int .i64 64) (.int .i64 0)).st4
  have b3 := hide (below_set4 B2.out (Nat.le_refl _) (.int .i64 0) (.int .u64 0) (.int .i64 64) (.int .i64 0))
  obtain ⟨p0, p1, p2, p3, p4, p5, p6, p7, p8, p9, p10⟩ := X2.out.st4
  have o0 := X3.c0
  have o1 := X3.c1
  have o2 := X3.c2
  have o3 := X3.c3
  clear X3
  go_wp2_with fail
  refine bodyPost_ret (v := .agg #[.int .i64 0, .int .u64 0, .int .i64 64, .int .i64 0]) (by simp [results, Tryd.f19, go_sem, o0, o1, o2, o3]) rfl ?_
  exact ⟨rfl, b3.out, by simp [z2.out]⟩

set_option maxHeartbeats 1000000 in
theorem values_in (n q : Nat) (m : Int) (w : World) :
    CallsIn Fence.wide n Tryd.prog 48 #[.pointer (some ⟨q, 0, none⟩), .int .i64 m] w fun e w' => e = .returned (.func (.func 56) #[] #[.pointer (some ⟨w.heap.size + 1, 0, none⟩), .pointer (some ⟨w.heap.size, 0, none⟩)]) ∧ w' = (w.alloc (.cells #[.pointer (some ⟨q, 0, none⟩)] 48)).alloc (.cells #[.int .i64 m] 3) := by
  refine callsIn_of_wp Tryd.func48 rfl trivial ?_ rfl
  simp only [Tryd.ntmps48, List.size_toArray, List.length_cons, List.length_nil, Nat.reduceAdd, Nat.reduceSub, Array.replicate_succ, Array.replicate_zero, List.push_toArray, List.append_toArray, List.nil_append, List.cons_append]
  gi_wp2
  go_ret
  exact ⟨rfl, rfl⟩

set_option maxRecDepth 100000 in
set_option maxHeartbeats 4000000 in
theorem values1_in (n : Nat) (hn : 1 ≤ n) (l B1 B2 base q m : Nat) (v : Value) (lb : List Int) (J Jx : List (Int × Nat) → World → Prop) (hm : m ≤ 4096) (W : World) (hJ : StaysQ W.heap.size q J)
    (hY : ∀ pre x W1, J pre W1 → W.heap.size + 3 < W1.heap.size → pre.length < 4096 → YieldAt Fence.wide (n - 1) Tryd.prog l #[.int .u64 x.1, .int .i64 (x.2 : Int)] W1 fun e W' =>
      (e = .returned (.bool true) ∧ J (pre ++ [x]) W' ∧ KpR base W1 W') ∨ (e = .returned (.bool false) ∧ Jx (pre ++ [x]) W'))
    (hR : Rd W base q v lb 0) (hT : Tab W) (hb0 : 0 < base) (hB1 : W.cell? ⟨B1, 0, none⟩ = some (.int .i64 (m : Int))) (hB2 : W.heap[B2]? = some (.cells #[.pointer (some ⟨q, 0, none⟩)] 48 (0, 0))) (hq2 : B2 ≠ q) (hJ0 : J [] W) :
    CallsIn Fence.wide n Tryd.prog 56 #[.func (.yield l) #[] #[], .pointer (some ⟨B1, 0, none⟩), .pointer (some ⟨B2, 0, none⟩)] W fun e W' => (∃ v, e = .returned v) ∧
      ((∃ xs, FinT (num lb) lb.length m xs ∧ J xs W') ∨ (∃ pre, StpT (num lb) lb.length m pre ∧ Jx pre W')) := by
  have hz24 := zero24
  replace hJ := hide hJ
  replace hY := hide hY
  replace hb0 := hide hb0
  replace hR := hide hR
  replace hT := hide hT
  replace hB1 := hide hB1
  replace hB2 := hide hB2
  replace hJ0 := hide hJ0
  refine callsIn_of_wp Tryd.func56 rfl trivial ?_ rfl
  simp only [Tryd.ntmps56, List.size_toArray, List.length_cons, List.length_nil, Nat.reduceAdd, Nat.reduceSub, Array.replicate_succ, Array.replicate_zero, List.push_toArray, List.append_toArray, List.nil_append, List.cons_append]
  gi_wp2
  refine ⟨trivial, (callsIn_wide.2 (begin_ex _)).mono ?_⟩
  rintro e wa ⟨rfl, ba, za⟩
  have A0 : Below W.heap.size W (wa.alloc (.cells #[.int .i64 0, .int .u64 0, .int .i64 64, .int .i64 0] 24)) := ba.alloc ba.size _
  have c1 : (wa.alloc (.cells #[.int .i64 0, .int .u64 0, .int .i64 64, .int .i64 0] 24)).cell? ⟨B1, 0, none⟩ = some (.int .i64 (m : Int)) := (A0.cell (p := ⟨B1, 0, none⟩) (World.block_lt_of_cell? W _ hB1.out)).trans hB1.out
  have R0 := hide (hR.out.below A0 (Nat.le_refl _))
  have T0 := hide (hT.out.kept A0 hT.out.pos)
  have J0 := hide (hJ.out _ _ _ none hJ0.out (grown_of_below A0) (fun r e => by cases e))
  have D0 : Hid (Bx (wa.alloc (.cells #[.int .i64 0, .int .u64 0, .int .i64 64, .int .i64 0] 24)) B2 48 #[.pointer (some ⟨q, 0, none⟩)]) := (A0.block _ (Array.getElem?_eq_some_iff.1 hB2.out).1).trans hB2.out
  obtain ⟨gs, hgs⟩ : ∃ gs, gs = W.heap.size + 3 := ⟨_, rfl⟩
  have S0 : Hid (Bx (wa.alloc (.cells #[.int .i64 0, .int .u64 0, .int .i64 64, .int .i64 0] 24)) gs 24 #[.int .i64 0, .int .u64 0, .int .i64 64, .int .i64 0]) := Bx.new_at (by omega) 24 _
  have hgq : Hid (gs ≠ q ∧ gs ≠ B2) := by have := hR.out.lt; have := (Array.getElem?_eq_some_iff.1 hB2.out).1; exact ⟨by omega, by omega⟩
  have hgf : Hid (¬ fp q v gs) := fun hf => by have := (hR.out.1.fplt _ hf).2; omega
  have hbW : Hid (base ≤ gs) := by have := hR.out.lt; show _ ≤ _; omega
  have zas : wa.heap.size = gs := by omega
  clear hR hT hB1 hB2 hJ0 A0 ba
  replace hgs := hide hgs
  replace za := hide za
  gi_wp2
  gi_loopw [9] (fun iv wr => ∃ (i L a b P : Nat) (ts : List Int), i ≤ m ∧ iv = .int .i64 (i : Int) ∧ Hid (rdA (num lb) lb.length i = some (L, a, b, P, ts)) ∧ Hid (J (okPairs ts) wr) ∧ Hid (Rd wr base q v lb P) ∧ Hid (Tab wr) ∧ Hid (Bx wr B2 48 #[.pointer (some ⟨q, 0, none⟩)]) ∧ Hid (Bx wr gs 24 #[.int .i64 (i : Int), .int .u64 (L : Int), .int .i64 (a : Int), .int .i64 (b : Int)])) (fun iv _ => m - (intOf iv).toNat)
  case atStart => exact ⟨0, 0, 64, 0, 0, [], Nat.zero_le _, rfl, rfl, J0, R0, T0, D0, S0⟩
  case round =>
    clear J0 R0 T0 D0 S0 c1 za zas
    obtain ⟨i, L, a, b, P, ts, hi, rfl, hA, Js, R, T, DD, S⟩ := hrel
    by_cases hlt : i < m
    · obtain ⟨hok, hL, hP8, hts, -⟩ := rdA_fine hA.out (by omega)
      have j1 : (i : Int) < (m : Int) := by omega
      have x0 := (Boxed.cell DD.out)
      have s0 := S.out.st4.c0
      have s1 := S.out.st4.c1
      have s2 := S.out.st4.c2
      have s3 := S.out.st4.c3
      cases hg : gX i L a b (num lb) lb.length P with
      | some qq =>
        obtain ⟨t, k, a', b'⟩ := qq
        have GE := hide (getX_ok R.out T.out hb0.out hok hL hg)
        have hA' := hide (rdA_ok hA.out hg)
        clear hg
        replace hok := hide hok
        replace hL := hide hL
        obtain ⟨i1, hi1⟩ : ∃ i1, i + 1 = i1 := ⟨_, rfl⟩
        rw [hi1] at hA' GE
        gi_wp2
        refine ⟨trivial, (callsIn_wide.2 GE.out).mono ?_⟩
        rintro e w4 ⟨rfl, R4, b4⟩
        clear GE x0 s0 s1 s2 s3
        have J4 := hide (hJ.out _ _ _ (some q) Js.out (grown_of_did b4) (fun r e => .inl (by cases e; rfl)))
        have T4 := T.out.did b4 hb0.out
        have D4 := DD.out.did b4 (fun e => hq2 (fp_nul e))
        have S4 := S.out.did b4 (fun e => hgq.out.1 (fp_nul e))
        have hsz4 : gs < w4.heap.size := S4.lt
        have b5 := but_set4 w4 gs (.int .i64 (i1 : Int)) (.int .u64 (t : Int)) (.int .i64 (a' : Int)) (.int .i64 (b' : Int))
        have J5 := hJ.out _ _ _ (some gs) J4.out (grown_of_but b5) (fun r e => .inr (.inl (by cases e; exact hgs.out)))
        have R5 : Rd _ base q v lb (P + k) := ⟨R4.1.kept b5 (fun k hk => by rw [hk]; exact hgf.out), R4.2⟩
        have T5 : Tab _ := T4.kept (b5.below (B := base) (by have := R4.lt; omega) (fun i hi => by rw [hi]; exact hbW.out)) hb0.out
        have D5 := D4.but b5 (fun e => hgq.out.2 e.symm)
        have S5 := S4.set4 (.int .i64 (i1 : Int)) (.int .u64 (t : Int)) (.int .i64 (a' : Int)) (.int .i64 (b' : Int))
        have hsz5 := Nat.lt_of_lt_of_le hsz4 b5.size
        obtain ⟨r0, r1, r2, r3, r4, r5, r6, r7, r8, r9, r10⟩ := S4.st4
        have hYY : YieldAt Fence.wide (n - 1) Tryd.prog l #[.int .u64 (t : Int), .int .i64 0] _ _ := hY.out _ ((t : Int), 0) _ J5 (by rw [← hgs.out]; exact hsz5) (by simp [okPairs]; omega)
        obtain ⟨fn, tmps, assign, body, hy', hRR⟩ := hYY
        replace J5 := hide J5
        replace R5 := hide R5
        replace T5 := hide T5
        replace D5 := hide D5
        replace S5 := hide S5
        replace hsz5 := hide hsz5
        have j2 : (i : Int) + 1 = (i1 : Int) := by omega
        have j3 : i1 ≤ m := by omega
        replace hi1 := hide hi1
        clear R4 T4 D4 S4 b4 b5 J4 hsz4
        gi_wp2
        refine hRR.mono ?_
        rintro e W3 (⟨rfl, hJ3, hk3⟩ | ⟨rfl, hJx3⟩)
        · have R6 := hide (hk3.rd R5.out)
          have T6 := hide (T5.out.kept hk3.bel hb0.out)
          have D6 : Hid (Bx W3 B2 48 #[.pointer (some ⟨q, 0, none⟩)]) := hk3.keep _ _ _ _ D5.out (.inr (.inr (.inr rfl)))
          have S6 : Hid (Bx W3 gs 24 #[.int .i64 (i1 : Int), .int .u64 (t : Int), .int .i64 (a' : Int), .int .i64 (b' : Int)]) := hk3.keep _ _ _ _ S5.out (.inr (.inr (.inl rfl)))
          have J6 : Hid (J (okPairs (ts ++ [(t : Int)])) W3) := by show J _ _; rw [okPairs_snoc]; exact hJ3
          clear hk3 hJ3 hRR hy'
          gi_wp2
          go_roundw
          case rel => exact ⟨i1, t, a', b', P + k, ts ++ [(t : Int)], j3, by go_num, hA', J6, R6, T6, D6, S6⟩
          case measure => simp [intOf]; omega
        · clear hRR hy'
          gi_wp2
          refine bodyPost_ret (results_none rfl _ _ _) rfl ?_
          exact ⟨⟨_, rfl⟩, .inr ⟨_, ⟨i, L, a, b, P, ts, _, hlt, hA.out, rfl, fun h => absurd rfl h⟩, hJx3⟩⟩
      | none =>
        have GE := hide (getX_no (L := L) R.out T.out hb0.out hok hg)
        have hA' := hide (rdA_err hA.out hg)
        clear hg
        replace hok := hide hok
        replace hL := hide hL
        gi_wp2
        refine ⟨trivial, (callsIn_wide.2 GE.out).mono ?_⟩
        rintro e w4 ⟨rfl, b4⟩
        clear GE x0 s0 s1 s2 s3
        have J4 := hide (hJ.out _ _ _ (some q) Js.out (grown_of_did b4) (fun r e => .inl (by cases e; rfl)))
        have S4 := S.out.did b4 (fun e => hgq.out.1 (fp_nul e))
        have hsz4 : gs < w4.heap.size := S4.lt
        have b5 := but_set4 w4 gs (.int .i64 0) (.int .u64 0) (.int .i64 0) (.int .i64 0)
        have J5 := hJ.out _ _ _ (some gs) J4.out (grown_of_but b5) (fun r e => .inr (.inl (by cases e; exact hgs.out)))
        have hsz5 := Nat.lt_of_lt_of_le hsz4 b5.size
        obtain ⟨r0, r1, r2, r3, r4, r5, r6, r7, r8, r9, r10⟩ := S4.st4
        have hYY : YieldAt Fence.wide (n - 1) Tryd.prog l #[.int .u64 0, .int .i64 50] _ _ := hY.out _ (0, 50) _ J5 (by rw [← hgs.out]; exact hsz5) (by simp [okPairs]; omega)
        obtain ⟨fn, tmps, assign, body, hy', hRR⟩ := hYY
        replace J5 := hide J5
        clear S4 b4 b5 J4 hsz4 hsz5
        gi_wp2
        refine hRR.mono ?_
        rintro e W3 (⟨rfl, hJ3, hk3⟩ | ⟨rfl, hJx3⟩)
        · clear hk3 hRR hy'
          gi_wp2
          refine bodyPost_ret (results_none rfl _ _ _) rfl ?_
          exact ⟨⟨_, rfl⟩, .inl ⟨_, .inr ⟨(0, 50), by simp, by decide⟩, hJ3⟩⟩
        · clear hRR hy'
          gi_wp2
          refine bodyPost_ret (results_none rfl _ _ _) rfl ?_
          exact ⟨⟨_, rfl⟩, .inr ⟨_, ⟨i, L, a, b, P, ts, _, hlt, hA.out, rfl, fun h => ⟨hA'.out, rfl⟩⟩, hJx3⟩⟩
    · obtain rfl : i = m := by omega
      have j1 : ¬ (i : Int) < (i : Int) := by omega
      gi_wp2
      go_end0
      exact ⟨⟨_, rfl⟩, .inl ⟨_, .inl ⟨L, a, b, P, ts, hA.out, rfl⟩, Js.out⟩⟩
end Go.Proofs.YtmddkinecplooaaDoor
