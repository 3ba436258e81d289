/-
  The iterator over samples: its walk.
-/
import Derived.Test.YtmjjedbdedemcaaGreatDoorTJ
namespace Go.Proofs.YtmjjedbdedemcaaGreatDoor
open Go.RowKit Go.Shelf
set_option linter.unusedVariables false
set_option linter.unusedSimpArgs false
attribute [local go_sem] Oper.semAt_some

section
variable {F : Fence} {n : Nat} {w : World} {ops : Array Oper} {rest : List Oper} {o : Oper} {a : Act} {Q : Exit → Act → World → Prop}
/-- States are stored, in a fence. -/
theorem wpListIn_storeZ (hgd : o.guard = none) (x y : Operand) (ho : o.op = .store 63 x y)
    (g : Nat) (a0 a1 a2 a3 a4 a5 a6 : Int) (hx : a.eval x = .pointer (some ⟨g, 0, none⟩)) (hy : a.eval y = .agg #[.int .i64 a0, .int .i64 a1, .int .i64 a2, .int .i64 a3, .int .u64 a4, .int .i64 a5, .int .i64 a6])
    (t : TypeId) (b0 b1 b2 b3 b4 b5 b6 : Value) (hg : Bx w g t #[b0, b1, b2, b3, b4, b5, b6])
    (h : wpListIn F n Tryz.prog ops Q rest (a.put o.dst undef) (w.setRow g #[.int .i64 a0, .int .i64 a1, .int .i64 a2, .int .i64 a3, .int .u64 a4, .int .i64 a5, .int .i64 a6])) : wpListIn F n Tryz.prog ops Q (o :: rest) a w := by
  have hrun := run_storeVar_row (P := Tryz.prog) w g t 63 _ #[.int .i64 a0, .int .i64 a1, .int .i64 a2, .int .i64 a3, .int .u64 a4, .int .i64 a5, .int .i64 a6] hg (by rw [sizeSts]; rfl) rfl (by simp [Value.oneCell'])
  refine wpListIn_plain hgd fun K hK' => ?_
  refine ⟨?_, ?_⟩
  · simp [Oper.about, ho]
  · rw [Oper.semAt_plain F _ _ (by rw [ho]; intro c hc'; cases hc')]
    simp [execOp, ho, hx, hy, Instr.storeAt, Instr.sureAddr, hrun, Result.andThen]
    exact hK' _ _ h
theorem wpListIn_storeP (hgd : o.guard = none) (x y : Operand) (ho : o.op = .store 33 x y)
    (g : Nat) (a0 a1 : Int) (hx : a.eval x = .pointer (some ⟨g, 0, none⟩)) (hy : a.eval y = .agg #[.int .i64 a0, .int .u64 a1])
    (t : TypeId) (b0 b1 : Value) (hg : Bx w g t #[b0, b1])
    (h : wpListIn F n Tryz.prog ops Q rest (a.put o.dst undef) (w.setRow g #[.int .i64 a0, .int .u64 a1])) : wpListIn F n Tryz.prog ops Q (o :: rest) a w := by
  have hrun := run_storeVar_row (P := Tryz.prog) w g t 33 _ #[.int .i64 a0, .int .u64 a1] hg (by rw [sizeSmp]; rfl) rfl (by simp [Value.oneCell'])
  refine wpListIn_plain hgd fun K hK' => ?_
  refine ⟨?_, ?_⟩
  · simp [Oper.about, ho]
  · rw [Oper.semAt_plain F _ _ (by rw [ho]; intro c hc'; cases hc')]
    simp [execOp, ho, hx, hy, Instr.storeAt, Instr.sureAddr, hrun, Result.andThen]
    exact hK' _ _ h
end
/-- What a round lays down of what was read. -/
theorem lay2 (w4 : World) (y0 y1 y2 y3 y4 y5 y6 t x : Int) : ∃ W5 : World, W5 = (((w4.alloc (.cells #[.int .i64 0, .int .i64 0, .int .i64 0, .int .i64 0, .int .u64 0, .int .i64 0, .int .i64 0] 63)).alloc (.cells #[.int .i64 0, .int .u64 0] 33)).setRow w4.heap.size #[.int .i64 y0, .int .i64 y1, .int .i64 y2, .int .i64 y3, .int .u64 y4, .int .i64 y5, .int .i64 y6]).setRow (w4.heap.size + 1) #[.int .i64 t, .int .u64 x] ∧
    Below w4.heap.size w4 W5 ∧ Bx W5 w4.heap.size 63 #[.int .i64 y0, .int .i64 y1, .int .i64 y2, .int .i64 y3, .int .u64 y4, .int .i64 y5, .int .i64 y6] ∧ Bx W5 (w4.heap.size + 1) 33 #[.int .i64 t, .int .u64 x] ∧
    Bx ((w4.alloc (.cells #[.int .i64 0, .int .i64 0, .int .i64 0, .int .i64 0, .int .u64 0, .int .i64 0, .int .i64 0] 63)).alloc (.cells #[.int .i64 0, .int .u64 0] 33)) w4.heap.size 63 #[.int .i64 0, .int .i64 0, .int .i64 0, .int .i64 0, .int .u64 0, .int .i64 0, .int .i64 0] ∧
    Bx (((w4.alloc (.cells #[.int .i64 0, .int .i64 0, .int .i64 0, .int .i64 0, .int .u64 0, .int .i64 0, .int .i64 0] 63)).alloc (.cells #[.int .i64 0, .int .u64 0] 33)).setRow w4.heap.size #[.int .i64 y0, .int .i64 y1, .int .i64 y2, .int .i64 y3, .int .u64 y4, .int .i64 y5, .int .i64 y6]) (w4.heap.size + 1) 33 #[.int .i64 0, .int .u64 0] ∧ W5.heap.size = w4.heap.size + 2 := by
  have X1 := (Bx.new w4 63 #[.int .i64 0, .int .i64 0, .int .i64 0, .int .i64 0, .int .u64 0, .int .i64 0, .int .i64 0]).alloc (.cells #[.int .i64 0, .int .u64 0] 33)
  have X2 := Bx.new_at (w := w4.alloc (.cells #[.int .i64 0, .int .i64 0, .int .i64 0, .int .i64 0, .int .u64 0, .int .i64 0, .int .i64 0] 63)) (g := w4.heap.size + 1) (by simp) 33 #[.int .i64 0, .int .u64 0]
  have B1 := (((Below.refl w4.heap.size w4).alloc (Nat.le_refl _) (.cells #[.int .i64 0, .int .i64 0, .int .i64 0, .int .i64 0, .int .u64 0, .int .i64 0, .int .i64 0] 63)).alloc (by simp) (.cells #[.int .i64 0, .int .u64 0] 33))
  have Y2 := X2.but (but_setRow _ w4.heap.size #[.int .i64 y0, .int .i64 y1, .int .i64 y2, .int .i64 y3, .int .u64 y4, .int .i64 y5, .int .i64 y6]) (by omega)
  have Y1 := X1.setRow #[.int .i64 y0, .int .i64 y1, .int .i64 y2, .int .i64 y3, .int .u64 y4, .int .i64 y5, .int .i64 y6]
  refine ⟨_, rfl, below_setRow (below_setRow B1 (Nat.le_refl _) _) (by omega) _, Y1.but (but_setRow _ (w4.heap.size + 1) _) (by omega), Y2.setRow _, X1, Y2, by simp [World.setRow]⟩

set_option maxRecDepth 100000 in
set_option maxHeartbeats 4000000 in
theorem samples1_in (n : Nat) (hn : 1 ≤ n) (l B1 B2 base q m : Nat) (v : Value) (lb : List Int) (J Jx : List Gv → World → Prop) (hm : m ≤ 4096) (W : World) (hJ : StaysQ W.heap.size q J)
    (hY : ∀ pre x W1, J pre W1 → W.heap.size + 4 < W1.heap.size → pre.length < 4096 → YieldAt Fence.wide (n - 1) Tryz.prog l #[.agg #[.int .i64 x.1.1, .int .u64 (x.1.2 : Int)], .int .i64 x.2] W1 fun e W' =>
      (e = .returned (.bool true) ∧ J (pre ++ [x]) W' ∧ KpR base W1 W') ∨ (e = .returned (.bool false) ∧ Jx (pre ++ [x]) W'))
    (hR : Rd W base q v lb 0) (hT : Tabs W) (hb0 : 2 < base) (hB1 : W.cell? ⟨B1, 0, none⟩ = some (.int .i64 (m : Int))) (hB2 : W.heap[B2]? = some (.cells #[.pointer (some ⟨q, 0, none⟩)] 107 (0, 0))) (hq2 : B2 ≠ q) (hJ0 : J [] W) :
    CallsIn Fence.wide n Tryz.prog 77 #[.func (.yield l) #[] #[], .pointer (some ⟨B1, 0, none⟩), .pointer (some ⟨B2, 0, none⟩)] W fun e W' => (∃ v, e = .returned v) ∧
      ((∃ xs, FinT lb base q v m xs W' ∧ J xs W') ∨ (∃ pre, StpT (num lb) lb.length m pre ∧ Jx pre W')) := by
  have hzz := zeroSts
  have hzs := zeroSmp
  replace hJ := hide hJ
  replace hY := hide hY
  replace hb0 := hide hb0
  replace hR := hide hR
  replace hT := hide hT
  replace hB1 := hide hB1
  replace hB2 := hide hB2
  replace hJ0 := hide hJ0
  refine callsIn_of_wp Tryz.func77 rfl trivial ?_ rfl
  simp only [Tryz.ntmps77, List.size_toArray, List.length_cons, List.length_nil, Nat.reduceAdd, Nat.reduceSub, Array.replicate_succ, Array.replicate_zero, List.push_toArray, List.append_toArray, List.nil_append, List.cons_append]
  gi_wp2
  refine ⟨trivial, (callsIn_wide.2 (cbegin_ex _)).mono ?_⟩
  rintro e wa ⟨rfl, ba, za⟩
  have A0 : Below W.heap.size W (wa.alloc (.cells #[.int .i64 0, .int .i64 0, .int .i64 0, .int .i64 0, .int .u64 0, .int .i64 64, .int .i64 0] 63)) := ba.alloc ba.size _
  have c1 : (wa.alloc (.cells #[.int .i64 0, .int .i64 0, .int .i64 0, .int .i64 0, .int .u64 0, .int .i64 64, .int .i64 0] 63)).cell? ⟨B1, 0, none⟩ = some (.int .i64 (m : Int)) := (A0.cell (p := ⟨B1, 0, none⟩) (World.block_lt_of_cell? W _ hB1.out)).trans hB1.out
  have R0 := hide (hR.out.below A0 (Nat.le_refl _))
  have T0 := hide (hT.out.kept A0 hT.out.pos)
  have J0 := hide (hJ.out _ _ _ none hJ0.out (grown_of_below A0) (fun r e => by cases e))
  have D0 : Hid (Bx (wa.alloc (.cells #[.int .i64 0, .int .i64 0, .int .i64 0, .int .i64 0, .int .u64 0, .int .i64 64, .int .i64 0] 63)) B2 107 #[.pointer (some ⟨q, 0, none⟩)]) := (A0.block _ (Array.getElem?_eq_some_iff.1 hB2.out).1).trans hB2.out
  obtain ⟨gs, hgs⟩ : ∃ gs, gs = W.heap.size + 4 := ⟨_, rfl⟩
  have S0 : Hid (Bx (wa.alloc (.cells #[.int .i64 0, .int .i64 0, .int .i64 0, .int .i64 0, .int .u64 0, .int .i64 64, .int .i64 0] 63)) gs 63 #[.int .i64 0, .int .i64 0, .int .i64 0, .int .i64 0, .int .u64 0, .int .i64 64, .int .i64 0]) := Bx.new_at (by omega) 63 _
  have hgq : Hid (gs ≠ q ∧ gs ≠ B2) := by have := hR.out.lt; have := (Array.getElem?_eq_some_iff.1 hB2.out).1; exact ⟨by omega, by omega⟩
  have hgf : Hid (¬ fp q v gs) := fun hf => by have := (hR.out.1.fplt _ hf).2; omega
  have hbW : Hid (base ≤ gs) := by have := hR.out.lt; show _ ≤ _; omega
  have zas : wa.heap.size = gs := by omega
  clear hR hT hB1 hB2 hJ0 A0 ba
  replace hgs := hide hgs
  replace za := hide za
  gi_wp2
  gi_loopw [10] (fun iv wr => ∃ (i P : Nat) (ts : List Sm), i ≤ m ∧ iv = .int .i64 (i : Int) ∧ Hid (rdS i z0 (num lb) lb.length 0 = some (ts, P)) ∧ Hid (J (okP ts) wr) ∧ Hid (Rd wr base q v lb P) ∧ Hid (Tabs wr) ∧ Hid (Bx wr B2 107 #[.pointer (some ⟨q, 0, none⟩)]) ∧ Hid (Bx wr gs 63 (zA (fin z0 ts)))) (fun iv _ => m - (intOf iv).toNat)
  case atStart => exact ⟨0, 0, [], Nat.zero_le _, rfl, rfl, J0, R0, T0, D0, S0⟩
  case round =>
    clear J0 R0 T0 D0 S0 c1 za zas
    obtain ⟨i, P, ts, hi, rfl, hA, Js, R, T, DD, S⟩ := hrel
    by_cases hlt : i < m
    · obtain ⟨hts, hokl, -, hP8, -⟩ := rdS_ok i z0 (num lb) lb.length 0 ts P ok_z0 (by simp [z0]; omega) (by omega) hA.out
      have hok := ok_fin ts z0 ok_z0 hokl (by simp [z0]; omega)
      have j1 : (i : Int) < (m : Int) := by omega
      have x0 := (Boxed.cell DD.out)
      cases hg : rd1 (fin z0 ts) (num lb) lb.length P with
      | some qq =>
        obtain ⟨s, P'⟩ := qq
        have GE := cget_ok R.out T.out hb0.out hok hg
        have hA' := hide (rdS_ok1 i z0 (num lb) lb.length 0 ts P s P' hA.out hg)
        rw [← fin_snoc] at GE
        clear hg
        obtain ⟨i1, hi1⟩ : ∃ i1, i + 1 = i1 := ⟨_, rfl⟩
        rw [hi1] at hA'
        have hfin : Hid (zA (fin z0 (ts ++ [s])) = zA (fin z0 (ts ++ [s]))) := rfl
        obtain ⟨n1, L1, D1, U1, a1, b1, hz1⟩ : ∃ n1 L1 D1 U1 a1 b1 : Nat, fin z0 (ts ++ [s]) = ⟨n1, L1, D1, U1, a1, b1⟩ := ⟨_, _, _, _, _, _, rfl⟩
        obtain ⟨n0, L0, D0, U0, a0, b0, hz0⟩ : ∃ n1 L1 D1 U1 a1 b1 : Nat, fin z0 ts = ⟨n1, L1, D1, U1, a1, b1⟩ := ⟨_, _, _, _, _, _, rfl⟩
        rw [hz1, hz0] at GE
        rw [hz0] at S
        unfold zA at GE S
        simp only at GE S
        obtain ⟨s0, s1, s2, s3, s4, s5, s6⟩ := S.out.seven
        replace GE := hide GE
        replace hok := hide hok
        replace hz1 := hide hz1
        replace hz0 := hide hz0
        clear hfin hokl
        obtain ⟨t, x⟩ := s
        simp only at GE
        gi_wp2
        refine ⟨trivial, (callsIn_wide.2 GE.out).mono ?_⟩
        rintro e w4 ⟨rfl, R4, b4⟩
        clear GE x0 s0 s1 s2 s3 s4 s5 s6
        obtain ⟨W5, hW5, B5, X5, Y5, Xa, Xb, z5⟩ := lay2 w4 (n1 : Int) (L1 : Int) (D1 : Int) (n1 : Int) (U1 : Int) (a1 : Int) (b1 : Int) (t : Int) (x : Int)
        have J4 := hJ.out _ _ _ (some q) Js.out (grown_of_but b4) (fun r e => .inl (by cases e; rfl))
        have J5 := hJ.out _ _ _ none J4 (grown_of_below B5) (fun r e => by cases e)
        have S4 := S.out.but b4 hgq.out.1
        have T4 := tabs_but T.out b4 (by have := R.out.lt; have := hb0.out; omega) R.out.lt.2
        have R5 := R4.below B5 (Nat.le_refl _)
        have T5 := T4.below B5
        have D5 := (DD.out.but b4 hq2).below B5
        have S5 := S4.below B5
        have hYY : YieldAt Fence.wide (n - 1) Tryz.prog l #[.agg #[.int .i64 (t : Int), .int .u64 (x : Int)], .int .i64 0] W5 _ := hY.out _ (up (t, x), 0) _ J5 (by rw [← hgs.out]; exact S5.lt) (by simp [okP]; omega)
        obtain ⟨fn, tmps, assign, body, hy', hRR⟩ := hYY
        replace J5 := hide J5
        replace R5 := hide R5
        replace T5 := hide T5
        replace D5 := hide D5
        replace S5 := hide S5
        replace X5 := hide X5
        replace Xa := hide Xa
        replace Xb := hide Xb
        replace z5 := hide z5
        have hgw : Hid (w4.heap.size ≠ gs ∧ gs < w4.heap.size) := by have := S4.lt; exact ⟨by omega, by omega⟩
        obtain ⟨u0, u1⟩ := Y5.two
        have j2 : (i : Int) + 1 = (i1 : Int) := by omega
        have j3 : i1 ≤ m := by omega
        replace hi1 := hide hi1
        clear R4 T4 S4 b4 J4 B5 Y5 Js R T DD S
        gi_wp2_with (first
          | (refine wpListIn_storeZ rfl (.tmp 5) (.tmp 16) rfl w4.heap.size _ _ _ _ _ _ _ rfl rfl 63 _ _ _ _ _ _ _ Xa.out ?_)
          | (refine wpListIn_storeP rfl (.tmp 6) (.tmp 17) rfl (w4.heap.size + 1) _ _ rfl rfl 33 _ _ Xb.out ?_; rw [← hW5]; clear hW5 Xa Xb))
        refine hRR.mono ?_
        rintro e W3 (⟨rfl, hJ3, hk3⟩ | ⟨rfl, hJx3⟩)
        · have R6 := hk3.rd R5.out
          have T6 := T5.out.kept hk3.bel hb0.out
          have D6 : Bx W3 B2 107 #[.pointer (some ⟨q, 0, none⟩)] := hk3.keep _ _ _ _ D5.out (.inr (.inr (.inr rfl)))
          have S6 : Bx W3 gs 63 _ := hk3.keep _ _ _ _ S5.out (.inr (.inr (.inl rfl)))
          have X6 : Bx W3 w4.heap.size 63 _ := hk3.keep _ _ _ _ X5.out (.inr (.inr (.inl rfl)))
          have J6 : J (okP (ts ++ [(t, x)])) W3 := by rw [okP_snoc]; exact hJ3
          have b7 := but_setRow W3 gs #[.int .i64 (n1 : Int), .int .i64 (L1 : Int), .int .i64 (D1 : Int), .int .i64 (n1 : Int), .int .u64 (U1 : Int), .int .i64 (a1 : Int), .int .i64 (b1 : Int)]
          have J7 := hide (hJ.out _ _ _ (some gs) J6 (grown_of_but b7) (fun r e => .inr (.inl (by cases e; exact hgs.out))))
          have R7 : Hid (Rd _ base q v lb P') := ⟨R6.1.kept b7 (fun k hk => by rw [hk]; exact hgf.out), R6.2⟩
          have T7 := hide (T6.kept (b7.below (B := base) (by have := R6.lt; omega) (fun i hi => by rw [hi]; exact hbW.out)) hb0.out)
          have D7 := hide (D6.but b7 (fun e => hgq.out.2 e.symm))
          have S7 := S6.setRow #[.int .i64 (n1 : Int), .int .i64 (L1 : Int), .int .i64 (D1 : Int), .int .i64 (n1 : Int), .int .u64 (U1 : Int), .int .i64 (a1 : Int), .int .i64 (b1 : Int)]
          have S8 : Hid (Bx (W3.setRow gs #[.int .i64 (n1 : Int), .int .i64 (L1 : Int), .int .i64 (D1 : Int), .int .i64 (n1 : Int), .int .u64 (U1 : Int), .int .i64 (a1 : Int), .int .i64 (b1 : Int)]) gs 63 (zA (fin z0 (ts ++ [(t, x)])))) := by show Bx _ _ _ _; rw [hz1.out]; exact S7
          obtain ⟨v0, v1, v2, v3, v4, v5, v6⟩ := X6.seven
          replace S6 := hide S6
          clear hk3 hJ3 hRR hy' J6 R6 T6 D6 X6 b7 S7 J5 R5 T5 D5 S5 X5
          gi_wp2_with (refine wpListIn_storeZ rfl (.tmp 4) (.tmp 28) rfl gs _ _ _ _ _ _ _ rfl rfl 63 _ _ _ _ _ _ _ S6.out ?_)
          go_roundw
          case rel => exact ⟨i1, P', ts ++ [(t, x)], j3, by go_num, hA', J7, R7, T7, D7, S8⟩
          case measure => simp [intOf]; omega
        · clear hRR hy'
          gi_wp2
          refine bodyPost_ret (results_none rfl _ _ _) rfl ?_
          exact ⟨⟨_, rfl⟩, .inr ⟨_, ⟨i, ts, P, _, hlt, hA.out, rfl, fun h => absurd rfl h⟩, hJx3⟩⟩
      | none =>
        have GE := cget_no R.out T.out hb0.out hok hg
        have hA' := hide (rdS_no1 i z0 (num lb) lb.length 0 ts P hA.out hg)
        clear hg
        obtain ⟨n0, L0, D0, U0, a0, b0, hz0⟩ : ∃ n1 L1 D1 U1 a1 b1 : Nat, fin z0 ts = ⟨n1, L1, D1, U1, a1, b1⟩ := ⟨_, _, _, _, _, _, rfl⟩
        rw [hz0] at GE S
        unfold zA at GE S
        simp only at GE S
        obtain ⟨s0, s1, s2, s3, s4, s5, s6⟩ := S.out.seven
        replace GE := hide GE
        replace hok := hide hok
        replace hz0 := hide hz0
        clear hokl
        gi_wp2
        refine ⟨trivial, (callsIn_wide.2 GE.out).mono ?_⟩
        rintro e w4 ⟨⟨er, her, rfl⟩, b4⟩
        unfold z7
        clear GE x0 s0 s1 s2 s3 s4 s5 s6
        obtain ⟨W5, hW5, B5, X5, Y5, Xa, Xb, z5⟩ := lay2 w4 0 0 0 0 0 0 0 0 0
        have J4 := hJ.out _ _ _ (some q) Js.out (grown_of_but b4) (fun r e => .inl (by cases e; rfl))
        have J5 := hJ.out _ _ _ none J4 (grown_of_below B5) (fun r e => by cases e)
        have S4 := S.out.but b4 hgq.out.1
        have S5 := S4.below B5
        have hYY : YieldAt Fence.wide (n - 1) Tryz.prog l #[.agg #[.int .i64 0, .int .u64 0], .int .i64 er] W5 _ := hY.out _ ((0, 0), er) _ J5 (by rw [← hgs.out]; exact S5.lt) (by simp [okP]; omega)
        obtain ⟨fn, tmps, assign, body, hy', hRR⟩ := hYY
        replace Xa := hide Xa
        replace Xb := hide Xb
        replace z5 := hide z5
        obtain ⟨u0, u1⟩ := Y5.two
        have hbe : (er != 0) = true := by rw [bne_iff_ne]; exact her
        clear S4 b4 J4 B5 Y5 R T DD S J5 S5 X5 Js
        gi_wp2_with (first
          | (refine wpListIn_storeZ rfl (.tmp 5) (.tmp 16) rfl w4.heap.size _ _ _ _ _ _ _ rfl rfl 63 _ _ _ _ _ _ _ Xa.out ?_)
          | (refine wpListIn_storeP rfl (.tmp 6) (.tmp 17) rfl (w4.heap.size + 1) _ _ rfl rfl 33 _ _ Xb.out ?_; rw [← hW5]; clear hW5 Xa Xb))
        refine hRR.mono ?_
        rintro e W3 (⟨rfl, hJ3, hk3⟩ | ⟨rfl, hJx3⟩)
        · clear hk3 hRR hy'
          gi_wp2
          refine bodyPost_ret (results_none rfl _ _ _) rfl ?_
          exact ⟨⟨_, rfl⟩, .inl ⟨_, .inr ⟨((0, 0), er), by simp, her⟩, hJ3⟩⟩
        · clear hRR hy'
          gi_wp2
          refine bodyPost_ret (results_none rfl _ _ _) rfl ?_
          exact ⟨⟨_, rfl⟩, .inr ⟨_, ⟨i, ts, P, _, hlt, hA.out, rfl, fun h => hA'.out⟩, hJx3⟩⟩
    · obtain rfl : i = m := by omega
      have j1 : ¬ (i : Int) < (i : Int) := by omega
      gi_wp2
      go_end0
      exact ⟨⟨_, rfl⟩, .inl ⟨_, .inl ⟨ts, P, hA.out, rfl, R.out⟩, Js.out⟩⟩
end Go.Proofs.YtmjjedbdedemcaaGreatDoor
