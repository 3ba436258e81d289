/-
  Proved: StampSmall answers true for all inputs, with the package listed variable as the program own text lays it (the tied card). No other condition.
-/
import Derived.Test.YtpopkoedeckfoaaDoorRows
import Derived.Test.YtpopkoedeckfoaaDoorTie
import Derived.Test.YtpopkoedeckfoaaDoorCards
import Derived.Test.YtpopkoedeckfoaaDoorI
import Derived.Test.YtpopkoedeckfoaaDoorSH
import Derived.Test.YtpopkoedeckfoaaDoorSJ
import Derived.ShutString
import Derived.ChangeOld
import Derived.Below
import Derived.Deep.Cut
import Derived.Deep.RegionHeld3
import Derived.SevenTiedAt
namespace Go.Proofs.YtpopkoedeckfoaaDoor.stampSmall
open Go.ChangeShapes Go.WideShapes Go.ChangeAt Go.RowKit
open Go.ChangeMaps (open_string shut_string)
set_option linter.unusedVariables false

set_option maxHeartbeats 1000000 in
theorem walk (a0 a1 a2 : Int) (w : World) (ht : Tab w) (w0 : (Lit.int .i64 a0).wf = true) (w1 : (Lit.int .i64 a1).wf = true) (w2 : (Lit.int .i64 a2).wf = true) :
    Calls Tryd.prog 8 #[.int .i64 a0, .int .i64 a1, .int .i64 a2] w fun e w' => e = .returned (.bool true) ∧ Below w.heap.size w w' := by
  have hz23 := zero23
  have K := hide (works_any w ht)
  obtain ⟨t0, g0, G0⟩ := among_ex a0 17592186044416 17592186044416 (by omega) w0 (by omega) (by omega)
  obtain ⟨s1, g1, G1⟩ := among_ex a1 175921860444 175921860444 (by omega) w1 (by omega) (by omega)
  obtain ⟨m, g2, G2⟩ := among_ex a2 50 50 (by omega) w2 (by omega) (by omega)
  replace G0 := hide G0
  replace G1 := hide G1
  replace G2 := hide G2
  obtain ⟨st, hst⟩ : ∃ st, 1 + s1 = st := ⟨_, rfl⟩
  obtain ⟨K2, hK2⟩ : ∃ K2, 3 + m = K2 := ⟨_, rfl⟩
  have e1 : (1 : Int) + (s1 : Int) = (st : Int) := by omega
  have e2 : (3 : Int) + (m : Int) = (K2 : Int) := by omega
  have h1 : st ≤ 175921860444 := by omega
  have h2 : 1 ≤ st := by omega
  have h3 : K2 ≤ 53 := by omega
  have i0 : (t0 : Int) < 17592186044416 := by omega
  have i1 : (s1 : Int) < 175921860444 := by omega
  have i2 : (m : Int) < 50 := by omega
  have hpos := hide ht.pos
  replace ht := hide ht
  clear w0 w1 w2 hst hK2 g1 g2
  replace g0 := hide g0
  replace h1 := hide h1
  replace h2 := hide h2
  go_enter Tryd.func8, Tryd.ntmps8
  go_wp2_with fail
  refine K.out.mono ?_
  rintro e w1 ⟨rfl, b1⟩
  replace b1 := hide b1
  have N := hide (newWr w1 w.heap.size b1.out.size)
  clear K
  go_wp2_with fail
  refine (G0.out _).mono ?_
  rintro e wq ⟨rfl, rfl⟩
  go_wp2_with fail
  refine (G1.out _).mono ?_
  rintro e wq ⟨rfl, rfl⟩
  go_wp2_with fail
  refine N.out.mono ?_
  rintro e w2 ⟨p, rfl, b2, W2, -⟩
  have T2 := hide ((ht.out.kept b1.out hpos.out).kept b2 (Nat.lt_of_lt_of_le hpos.out b1.out.size))
  have D2 : Did w2 w2 w.heap.size p (.slice none 0 0) (.slice none 0 0) := ⟨Below.refl _ _, But.refl _ _, fun _ _ h => h⟩
  have E2 := hide (WB.start D2 W2 T2.out hpos.out (.int .i64 0) (.int .i64 0) (.int .i64 0) rfl)
  have b2' := hide (b1.out.trans (b2.mono b1.out.size))
  clear N W2 D2 T2 b2 b1
  go_wp2_with fail
  go_loopw [7, 10, 11] (fun tv lv iv wr => ∃ (i n0 A T L D : Nat) (v : Value), i ≤ K2 ∧ iv = .int .i64 (i : Int) ∧ tv = .int .i64 (T : Int) ∧ lv = .int .i64 (n0 : Int) ∧ n0 ≤ 52 * i ∧ Hid (T = smT t0 st i ∧ L = smL t0 st i ∧ D = smD st i) ∧ Hid (WB w2 wr w.heap.size p w2.heap.size (.slice none 0 0) v A n0 (.int .i64 (i : Int)) (.int .i64 (L : Int)) (.int .i64 (D : Int)))) (fun _ _ iv _ => K2 - (intOf iv).toNat)
  case atStart => exact ⟨0, 0, 0, t0, 0, 0, _, Nat.zero_le _, rfl, rfl, rfl, by omega, ⟨by simp [smT], rfl, rfl⟩, E2⟩
  case round =>
    clear E2 G0 G1
    obtain ⟨i, n0, A, T, L, D, v, hi, rfl, rfl, rfl, hn0, hm, E⟩ := hrel
    by_cases hlt : i < K2
    · have j1 : (i : Int) < (K2 : Int) := by omega
      have hok := hide (sm_okS (i := i) g0.out h1.out (by omega))
      have hokT := hide (sm_okT (i := i) g0.out h1.out h2.out (by omega))
      have hbd := (sm_bound (i := i) g0.out h1.out (by omega)).1
      obtain ⟨q, hq⟩ : ∃ q, smD st (i + 1) = q := ⟨_, rfl⟩
      obtain ⟨hT, hL, hD⟩ := hm.out
      have hdl := sm_dl t0 st i
      rw [← hT, ← hL, hq] at hdl
      rw [← hL, ← hD] at hok
      rw [← hT, ← hL] at hokT
      rw [← hT] at hbd
      have hone := fun h => sm_one (t0 := t0) (st := st) (i := i) h
      rw [← hT, ← hL, ← hD] at hone
      have hnext := hide (And.intro (sm_T t0 st i) (sm_L t0 st i))
      rw [← hT] at hnext
      have hcd := cdN_le i L D T
      have P := hide (putSi (n := i) (L := L) (D := D) (t := T) (ni' := (i : Int) + 1) (qi := (q : Int)) E.out.wr E.out.t hpos.out hok.out hokT.out (by omega) rfl rfl rfl rfl (by omega) (by rw [hdl]) rfl rfl)
      have s0 := E.out.s.c0
      have s1 := E.out.s.c1
      have s2 := E.out.s.c2
      obtain ⟨Y, hY⟩ : ∃ Y, cdN i L D T = Y := ⟨_, rfl⟩
      rw [hY] at P hcd hone
      obtain ⟨n1, hn1⟩ : ∃ n1, n0 + Y = n1 := ⟨_, rfl⟩
      rw [hn1] at P
      have k1 : (n1 : Int) ≤ 3000 := by omega
      have k2 : (n0 : Int) ≤ 3000 := by omega
      have k3 : n1 ≤ 52 * (i + 1) := by omega
      have k4 : (i : Int) ≤ 53 := by omega
      have k5 : (T : Int) ≤ 35184372088832 := by omega
      have k6 : (st : Int) ≤ 175921860444 := by have := h1.out; omega
      have k7 : i + 1 ≤ K2 := by omega
      have k8 : 2 ≤ i → n1 = n0 + 1 := fun h => by have := hone h; omega
      have hwr : Hid (IntKind.i64.wrap ((T : Int) + (st : Int)) = ((T + st : Nat) : Int)) := by
        show _ = _
        rw [IntKind.wrap_i64]; omega
      replace hT := hide hT
      replace hL := hide hL
      replace hD := hide hD
      replace hdl := hide hdl
      replace hone := hide hone
      replace hY := hide hY
      replace hcd := hide hcd
      replace hn1 := hide hn1
      replace hbd := hide hbd
      replace hq := hide hq
      replace k8 := hide k8
      replace k3 := hide k3
      replace hn0 := hide hn0
      go_wp2_with fail
      refine (G2.out _).mono ?_
      rintro e wq ⟨rfl, rfl⟩
      go_wp2_with fail
      refine P.out.mono ?_
      rintro e w3 ⟨rfl, v3, W3, D3⟩
      have E3 := hide ((E.out.put D3 W3).below ((Below.refl _ w3).alloc (Nat.le_refl _) (.cells #[.int .i64 ((i : Int) + 1), .int .i64 (T : Int), .int .i64 (q : Int)] 23)))
      have Ln := hide (lenWr E3.out.wr)
      have FIN := hide (E3.out.set (Nat.le_refl _) (.int .i64 ((i : Int) + 1)) (.int .i64 (T : Int)) (.int .i64 (q : Int)))
      have hne : Hid (w3.heap.size ≠ w2.heap.size) := by have := E.out.s.lt; have := D3.bel.size; show _ ≠ _; omega
      clear s0 s1 s2 P W3 D3
      obtain ⟨r0, r1, r2, r3, r4, r5, r6⟩ := E3.out.s
      have r7 := E3.out.s.o1
      have r8 := E3.out.s.o2
      have cc : Hid ((w3.alloc (.cells #[.int .i64 ((i : Int) + 1), .int .i64 (T : Int), .int .i64 (q : Int)] 23)).cell? ⟨w3.heap.size, 0, none⟩ = some (.int .i64 ((i : Int) + 1)) ∧ (w3.alloc (.cells #[.int .i64 ((i : Int) + 1), .int .i64 (T : Int), .int .i64 (q : Int)] 23)).cell? ⟨w3.heap.size, 1, none⟩ = some (.int .i64 (T : Int)) ∧ (w3.alloc (.cells #[.int .i64 ((i : Int) + 1), .int .i64 (T : Int), .int .i64 (q : Int)] 23)).cell? ⟨w3.heap.size, 2, none⟩ = some (.int .i64 (q : Int))) :=
        ⟨(Box3.new w3 _ _ _ 23).c0, (Box3.new w3 _ _ _ 23).c1, (Box3.new w3 _ _ _ 23).c2⟩
      have cc2 := hide ((Box3.new w3 (.int .i64 ((i : Int) + 1)) (.int .i64 (T : Int)) (.int .i64 (q : Int)) 23).beside (g := w2.heap.size) hne.out (.int .i64 ((i : Int) + 1)) (.int .i64 (T : Int)) (.int .i64 (q : Int)))
      by_cases hi2 : 2 ≤ i
      · have j2 : (2 : Int) ≤ (i : Int) := by omega
        have j3 : (n0 : Int) + 1 = (n1 : Int) := by have := k8.out hi2; omega
        go_upto_if 49 with (go_at_call 18; refine Ln.out.mono ?_; rintro e wq ⟨rfl, rfl⟩)
        go_upto_region 13 with fail
        go_region_held3 (fun w' => w'.cell? ⟨w3.heap.size, 0, none⟩ = some (.int .i64 ((i : Int) + 1)) ∧ w'.cell? ⟨w3.heap.size, 1, none⟩ = some (.int .i64 (T : Int)) ∧ w'.cell? ⟨w3.heap.size, 2, none⟩ = some (.int .i64 (q : Int))) (first | (exact cc.out) | (exact cc2.out)) (first | (go_at_call 18; refine (lenWr (Wr.drew E3.out.wr)).mono ?_; rintro e wq ⟨rfl, rfl⟩))
        all_goals go_wp2_with fail
        all_goals go_roundw
        case rel => exact ⟨i + 1, n1, _, T + st, T, q, v3, k7, by go_num, by rw [hwr.out], rfl, k3.out, ⟨hnext.out.1, hnext.out.2.symm, hq.out.symm⟩, FIN.out.drew⟩
        case measure => simp [intOf]; omega
      · have j2 : (i : Int) < 2 := by omega
        have j4 : i < 2 := by omega
        have j5 : decide ((2 : Int) ≤ (i : Int)) = false := by simp; omega
        have j6 : decide (2 ≤ i) = false := by simp; omega
        clear hi2
        go_upto_if 49 with fail
        go_upto_region 13 with fail
        go_region_held3 (fun w' => w'.cell? ⟨w3.heap.size, 0, none⟩ = some (.int .i64 ((i : Int) + 1)) ∧ w'.cell? ⟨w3.heap.size, 1, none⟩ = some (.int .i64 (T : Int)) ∧ w'.cell? ⟨w3.heap.size, 2, none⟩ = some (.int .i64 (q : Int))) (first | (exact cc.out) | (exact cc2.out)) (first | (go_at_call 18; refine (lenWr (Wr.drew E3.out.wr)).mono ?_; rintro e wq ⟨rfl, rfl⟩))
        all_goals go_wp2_with fail
        all_goals go_roundw
        case rel => exact ⟨i + 1, n1, _, T + st, T, q, v3, k7, by go_num, by rw [hwr.out], rfl, k3.out, ⟨hnext.out.1, hnext.out.2.symm, hq.out.symm⟩, FIN.out.drew⟩
        case measure => simp [intOf]; omega
    · have j1 : (K2 : Int) ≤ (i : Int) := by omega
      have B := hide (b2'.out.trans E.out.d.bel)
      clear E
      replace hm := hide hm
      go_wp2_with fail
      refine (G2.out _).mono ?_
      rintro e wq ⟨rfl, rfl⟩
      go_wp2_with fail
      go_ret
      exact ⟨rfl, B.out⟩

set_option maxRecDepth 100000 in
theorem lifted (os : Os) (started : os.Started) (H : Type) (enc : TypeId × Value → H) :
    ReturnsInHanded {} Tryd.checked os 8 .any (fun w args => (Rows.stampSmallSpec.pre enc Tryd.prog Tryd.f8 [] false w args ∧ laidMetH Tryd.prog laidAll w) ∧ sizedMet enc Tryd.prog Tryd.f8 (OpenSpec.ofChange Rows.stampSmallSpec) false w args) (Rows.stampSmallSpec.post enc Tryd.prog Tryd.f8 false true false false) := by
  refine returnsInHanded_of_change_and (C := Tryd.checked) (X := fun w _ => laidMetH Tryd.prog laidAll w) (fun _ _ _ hh h => h.of_heap hh) own started (by kernel_rfl) Tryd.func8
    (ChangeSpec.witness_shaped (enc := enc) (C := Tryd.checked) (os := os) (X := fun w _ => laidMetH Tryd.prog laidAll w) false (World.doorLaid Tryd.prog 400 os) #[.int .i64 0, .int .i64 0, .int .i64 0] 8 rfl (World.shaped_of_RefB (by kernel_rfl) (by kernel_rfl)) (by kernel_rfl) (by kernel_rfl) (by kernel_rfl) (door_met os _)) ?_
  intro W base args ds gs before hval0 hW _ _ hL _
  have hval : ∀ (j : Nat) t v, Tryd.f8.params[j]? = some t → args[j]? = some v → Value.okWide Tryd.prog W .any base t v := hval0
  have hW' := hW
  obtain ⟨p, q, hA0, hV, rfl, hfz, hnd⟩ := hW
  have hA : DataW.TrodAll enc Tryd.prog W 0 (fun _ => true) true Tryd.f8.params.toList args.toList ds p := hA0
  rw [Tryd.params8] at hA hval
  obtain ⟨v0, vs0, d0, ds0, p0, q0, hargs, rfl, rfl, h0, r0⟩ := trodAll_cons hA
  obtain ⟨v1, vs1, d1, ds1, p1, q1, rfl, rfl, rfl, h1, r1⟩ := trodAll_cons r0
  obtain ⟨v2, vs2, d2, ds2, p2, q2, rfl, rfl, rfl, h2, r2⟩ := trodAll_cons r1
  obtain ⟨rfl, rfl, rfl⟩ := trodAll_nil r2
  obtain rfl : args = #[v0, v1, v2] := by cases args; simp_all
  obtain ⟨rfl, rfl⟩ := trodVars_none hV
  obtain ⟨a0, rfl, rfl, rfl, w0⟩ := open_int Tryd.underlying3 (hval 0 3 v0 rfl rfl) h0
  obtain ⟨a1, rfl, rfl, rfl, w1⟩ := open_int Tryd.underlying3 (hval 1 3 v1 rfl rfl) h1
  obtain ⟨a2, rfl, rfl, rfl, w2⟩ := open_int Tryd.underlying3 (hval 2 3 v2 rfl rfl) h2
  clear hA0 hval0
  have ht := facts_of_laid hL
  refine (walk a0 a1 a2 W ht w0 w1 w2).mono fun e W' ⟨he, bel⟩ => ?_
  subst he
  exact ⟨_, rfl, _, _, _, [], _, [], hW', trodAll_mk1 (shut_bool Tryd.underlying4 _), (trodAll_cons_mk (shut_int Tryd.underlying3 w0) (trodAll_cons_mk (shut_int Tryd.underlying3 w1) (trodAll_cons_mk (shut_int Tryd.underlying3 w2) trodAll_mk0))), rfl, bel.frame _, fun h => by cases h⟩

theorem over : Rows.stampSmallRow.holds Tryd.pinned (OpenSpec.ofChange Rows.stampSmallSpec) :=
  OpenClaim.holds_of_wide 8 Tryd.f8 rfl rfl rfl rfl rfl rfl rfl ⟨rfl, rfl, rfl, rfl, rfl⟩ rfl rfl rfl rfl rfl (by kernel_rfl) Tryd.func8 (by kernel_rfl)
    (of_decide_eq_true (by kernel_rfl)) (by unfold Func.isWrapper; first | (rw [if_pos (by decide +kernel)]; kernel_rfl) | (rw [if_neg (by decide +kernel)]; exact ⟨rfl, rfl⟩))
    (fun os started H enc _ => lifted os started H enc)

/-- The statement: the tied card. -/
theorem proved : Rows.StampSmallCardSaid :=
  Claim7.holds_tied_plain_at .later [] [.data] true _ false
    over (fun _ h => by cases h) (by kernel_rfl) (fun _ h => by cases h) stampSmall_row_tie rfl ⟨rfl, rfl⟩ (by kernel_rfl) rfl
    (fun f fn hf hfn => by
      obtain rfl : f = 8 := Option.some.inj ((show Tryd.prog.funcNamed "tidepole/tidepolelaw06.StampSmall" = some 8 by kernel_rfl).symm.trans hf) |>.symm
      obtain rfl : fn = Tryd.f8 := (Option.some.inj (Tryd.func8.symm.trans hfn)).symm
      exact ⟨by kernel_rfl, fun j t ht => by
        rw [Tryd.params8] at ht
        have hm : t ∈ [3, 3, 3] := by have := Array.mem_of_getElem? ht; simp at this ⊢; omega
        have hall : ([3, 3, 3].all fun u => !Tryd.prog.wantsStandIn u) = true := by kernel_rfl
        exact (show Tryd.prog.wantsStandIn t = false by simpa using List.all_eq_true.1 hall t hm)⟩)
    (by kernel_rfl)
#print axioms proved
end Go.Proofs.YtpopkoedeckfoaaDoor.stampSmall
