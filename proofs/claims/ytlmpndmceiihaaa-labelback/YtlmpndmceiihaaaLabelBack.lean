/-
  Proved: LabelBack answers true for all inputs. No other condition.
-/
import Derived.Test.YtlmpndmceiihaaaRows
import Derived.Test.YtlmpndmceiihaaaI
import Derived.Test.YtlmpndmceiihaaaX
import Derived.Test.YtlmpndmceiihaaaBF
import Derived.ShutString
import Derived.ChangeOld
import Derived.Below
namespace Go.Proofs.Ytlmpndmceiihaaa.labelBack
open Go.ChangeShapes Go.WideShapes Go.ChangeAt Go.RowKit
open Go.ChangeMaps (open_string shut_string)
set_option linter.unusedVariables false

theorem drew_bel (w : World) : Below w.heap.size w w.drew := (Below.refl _ w).drew
set_option maxRecDepth 100000 in
set_option maxHeartbeats 4000000 in
theorem walk (a0 : Option Addr) (len0 cap0 : Nat) (l0 : List Lab) (a1 : Option Addr) (len1 cap1 : Nat) (l1 : List Int) (a2 : Option Addr) (len2 cap2 : Nat) (l2 : List Int) (w : World) (h0 : HasB w a0 len0 cap0 l0) (h1 : V.Has w a1 len1 cap1 l1) (h2 : V.Has w a2 len2 cap2 l2) :
    Calls Try.prog 3 #[.slice a0 len0 cap0, .slice a1 len1 cap1, .slice a2 len2 cap2] w fun e w' => e = .returned (.bool true) ∧ Below w.heap.size w w' := by
  have hf0 : Hid (∀ W, Below w.heap.size w W → Calls Try.prog 5 #[.slice a0 len0 cap0] W (Labs W (fewB l0))) := fun W b => few_any W a0 len0 cap0 l0 (h0.kept b (Nat.le_refl _))
  clear h0
  generalize fewB l0 = L at hf0
  obtain ⟨m1, hm1⟩ : ∃ m, min len1 1000 = m := ⟨_, rfl⟩
  obtain ⟨m2, hm2⟩ : ∃ m, min len2 50 = m := ⟨_, rfl⟩
  have g1 := h1.le
  have g2 := h2.le
  have g3 := h1.capb
  have g4 := h2.capb
  unfold maxLen at g3 g4
  have j0 : (m1 : Int) ≤ (cap1 : Int) := by omega
  have j1 : (m2 : Int) ≤ (cap2 : Int) := by omega
  have j2 : m1 ≤ cap1 := by omega
  have j3 : m2 ≤ cap2 := by omega
  have j4 : m1 ≤ 1000 := by omega
  have j5 : m2 ≤ 50 := by omega
  have HB0 := hide (h1.front m1 (by omega))
  have HM0 := hide (h2.front m2 (by omega))
  replace hm1 := hide hm1
  replace hm2 := hide hm2
  clear h1 h2
  go_enter Try.func3, Try.ntmps3
  go_wp2_with fail
  refine (works_any _).mono ?_
  rintro e W1 ⟨rfl, B1⟩
  have Bd := hide (B1.trans ((drew_bel W1).mono B1.size))
  clear B1
  go_wp2_with fail
  go_region_held3 (fun _ => True) (first | trivial) (first
    | (refine step_min rfl (.tmp 23) (.const (.int .i64 1000)) rfl len1 1000 m1 rfl rfl hm1.out ?_)
    | (refine step_min rfl (.tmp 28) (.const (.int .i64 50)) rfl len2 50 m2 rfl rfl hm2.out ?_)
    | (go_at_call 5; refine (hf0.out _ Bd.out).mono ?_; rintro e W2 ⟨b0, c0, rfl, G0, T2⟩))
  all_goals exact (by
    have BX := hide (Bd.out.trans (T2.mono Bd.out.size))
    have HB := hide (HB0.out.kept BX.out (Nat.le_refl _))
    have HM := hide (HM0.out.kept BX.out (Nat.le_refl _))
    replace G0 := hide G0
    clear T2 hf0 Bd HB0 HM0 hm1 hm2
    by_cases hc : chkB L = true
    · have PO := hide (Put_ok W2 a2 m2 cap2 (l2.take m2) HM.out (by omega) b0 L.length c0 L G0.out hc)
      have hc' := hide hc
      clear hc
      go_wp2_with fail
      refine PO.out.mono ?_
      rintro e W3 ⟨a3, n3, c3, rfl, H3, B3⟩
      have bX := hide (BX.out.trans (B3.mono BX.out.size))
      have hB3 := hide (HB.out.kept B3 (Nat.le_refl _))
      have G3 := hide (G0.out.kept B3 (Nat.le_refl _))
      have hlM : Hid ((l2.take m2).length = m2) := HM.out.hlen
      have hn3 : Hid ((l2.take m2 ++ V.bytesL L).length = n3) := H3.hlen
      have hm3 : m2 ≤ n3 := by have := hlM.out; have := hn3.out; rw [List.length_append] at this; omega
      have hn3b : n3 ≤ 1099511627776 := by have e1 := hn3.out; have e2 := bytes_len hc'.out; have e3 := hlM.out; rw [List.length_append] at e1; omega
      have RD := hide (Read_any W3 a3 n3 c3 _ m2 H3 hn3b hm3)
      clear PO B3 BX HB G0
      go_wp2_with fail
      refine RD.out.mono ?_
      rintro e W4 ⟨hRS, B4⟩
      obtain ⟨a4, c4, rfl, H4⟩ := read_put hc'.out hn3.out hlM.out hRS
      have BX := hide (bX.out.trans (B4.mono bX.out.size))
      have HB := hide (hB3.out.kept B4 (Nat.le_refl _))
      have G4 := G3.out.kept B4 (Nat.le_refl _)
      have SM := sameB_any W4 a4 b0 L.length L.length c4 c0 L L H4 G4
      rw [show decide (L = L) = true by simp] at SM
      replace SM := hide SM
      clear RD hRS B4 H4 G4 bX hB3 G3 H3
      have hne : ((n3 : Int) != (n3 : Int)) = false := by simp
      go_wp2_with fail
      refine SM.out.mono ?_
      rintro e W5 ⟨rfl, m5, hW5⟩
      have B5 : Below W4.heap.size W4 W5 := by rw [hW5]; exact below_drewN (Below.refl _ _) m5
      have BY := hide (BX.out.trans (B5.mono BX.out.size))
      have HC := hide (HB.out.kept B5 (Nat.le_refl _))
      clear SM hW5 B5 BX HB
      have BX := BY
      have HB := HC
      clear BY HC
      have BB0 := trivial
      have RB := hide (Read_any W5 a1 m1 cap1 (l1.take m1) 0 HB.out (by omega) (Nat.zero_le _))
      clear BB0
      go_wp2_with fail
      refine RB.out.mono ?_
      rintro e Y1 ⟨hRS, C1⟩
      have d1 := hide (BX.out.trans (C1.mono BX.out.size))
      have K1 := hide (HB.out.kept C1 (Nat.le_refl _))
      rcases put_read HB.out.bytes hRS with ⟨X, q, aX, cX, hcX, hq, htq, rfl, HX⟩ | ⟨m, hm, rfl⟩
      · have hql : q ≤ m1 := by have := HB.out.hlen; omega
        have hqi : (q : Int) ≤ (m1 : Int) := by omega
        have hqc : (q : Int) ≤ (cap1 : Int) := by omega
        have hqc2 : q ≤ cap1 := by omega
        have PO := hide (Put_ok Y1 none 0 0 [] (V.has_nil Y1) (by omega) aX X.length cX X HX hcX)
        replace htq := hide htq
        replace HX := hide HX
        replace hcX := hide hcX
        clear RB hRS C1 hq
        go_wp2_with fail
        refine PO.out.mono ?_
        rintro e Y2 ⟨aY, nY, cY, rfl, HY, C2⟩
        have d2 := hide (d1.out.trans (C2.mono d1.out.size))
        have SM := hide (V.same_yes Y2 aY a1 nY q cY cap1 _ _ HY ((K1.out.kept C2 (Nat.le_refl _)).front q hql) (by rw [List.nil_append]; exact htq.out.symm))
        clear PO C2 HY
        go_wp2_with fail
        refine SM.out.mono ?_
        rintro e Y3 ⟨rfl, rfl⟩
        clear SM
        go_wp2_with fail
        go_ret
        exact ⟨rfl, d2.out⟩
      · have hm' : (m != 0) = true := by rw [bne_iff_ne]; exact hm
        clear RB hRS C1
        go_wp2_with fail
        go_ret
        exact ⟨rfl, d1.out⟩
    · have PN := hide (Put_no W2 (.slice a2 m2 cap2) b0 L.length c0 L G0.out (by simpa using hc))
      have hc' := hide hc
      clear hc
      go_wp2_with fail
      refine PN.out.mono ?_
      rintro e W3 ⟨rfl, B3⟩
      have BY := hide (BX.out.trans (B3.mono BX.out.size))
      have HC := hide (HB.out.kept B3 (Nat.le_refl _))
      clear PN B3 BX HB
      have BX := BY
      have HB := HC
      clear BY HC
      have BB0 := trivial
      have RB := hide (Read_any W3 a1 m1 cap1 (l1.take m1) 0 HB.out (by omega) (Nat.zero_le _))
      clear BB0
      go_wp2_with fail
      refine RB.out.mono ?_
      rintro e Y1 ⟨hRS, C1⟩
      have d1 := hide (BX.out.trans (C1.mono BX.out.size))
      have K1 := hide (HB.out.kept C1 (Nat.le_refl _))
      rcases put_read HB.out.bytes hRS with ⟨X, q, aX, cX, hcX, hq, htq, rfl, HX⟩ | ⟨m, hm, rfl⟩
      · have hql : q ≤ m1 := by have := HB.out.hlen; omega
        have hqi : (q : Int) ≤ (m1 : Int) := by omega
        have hqc : (q : Int) ≤ (cap1 : Int) := by omega
        have hqc2 : q ≤ cap1 := by omega
        have PO := hide (Put_ok Y1 none 0 0 [] (V.has_nil Y1) (by omega) aX X.length cX X HX hcX)
        replace htq := hide htq
        replace HX := hide HX
        replace hcX := hide hcX
        clear RB hRS C1 hq
        go_wp2_with fail
        refine PO.out.mono ?_
        rintro e Y2 ⟨aY, nY, cY, rfl, HY, C2⟩
        have d2 := hide (d1.out.trans (C2.mono d1.out.size))
        have SM := hide (V.same_yes Y2 aY a1 nY q cY cap1 _ _ HY ((K1.out.kept C2 (Nat.le_refl _)).front q hql) (by rw [List.nil_append]; exact htq.out.symm))
        clear PO C2 HY
        go_wp2_with fail
        refine SM.out.mono ?_
        rintro e Y3 ⟨rfl, rfl⟩
        clear SM
        go_wp2_with fail
        go_ret
        exact ⟨rfl, d2.out⟩
      · have hm' : (m != 0) = true := by rw [bne_iff_ne]; exact hm
        clear RB hRS C1
        go_wp2_with fail
        go_ret
        exact ⟨rfl, d1.out⟩)

set_option maxRecDepth 100000 in
theorem lifted (os : Os) (started : os.Started) (H : Type) (enc : TypeId × Value → H) :
    ReturnsInHanded {} Try.checked os 3 .any (Rows.labelBackSpec.pre6 enc Try.prog Try.f3 Rows.labelBackRow.domain false) (Rows.labelBackSpec.post enc Try.prog Try.f3 false true false false) := by
  refine returnsInHanded_of_change (C := Try.checked) own started (by kernel_rfl) Try.func3
    (ChangeSpec.witness6 (enc := enc) (C := Try.checked) false ⟨#[], #[.slice none 0 0, .slice none 0 0, .slice none 0 0], []⟩ 8 (by kernel_rfl) (by kernel_rfl) (by kernel_rfl) (by kernel_rfl)) ?_
  intro W base args ds gs before hval0 hW hcnd _
  have hval : ∀ (j : Nat) t v, Try.f3.params[j]? = some t → args[j]? = some v → Value.okWide Try.prog W .any base t v := hval0
  have hW' := hW
  obtain ⟨p, q, hA0, hV, rfl, hfz, hnd⟩ := hW
  have hA : DataW.TrodAll enc Try.prog W 0 (fun _ => true) true Try.f3.params.toList args.toList ds p := hA0
  rw [Try.params3] at hA hval
  obtain ⟨v0, vs0, d0, ds0, p0, q0, hargs, rfl, rfl, h0, r0⟩ := trodAll_cons hA
  obtain ⟨v1, vs1, d1, ds1, p1, q1, rfl, rfl, rfl, h1, r1⟩ := trodAll_cons r0
  obtain ⟨v2, vs2, d2, ds2, p2, q2, rfl, rfl, rfl, h2, r2⟩ := trodAll_cons r1
  obtain ⟨rfl, rfl, rfl⟩ := trodAll_nil r2
  obtain rfl : args = #[v0, v1, v2] := by cases args; simp_all
  obtain ⟨rfl, rfl⟩ := trodVars_none hV
  obtain ⟨a0, len0, cap0, rfl⟩ := okWide_slice Try.underlying23 (hval 0 23 v0 rfl rfl)
  have k0 := h0
  have lt0 : ∀ x ∈ p0, x.block < W.heap.size := by obtain ⟨m, hm⟩ := k0; exact DataW.trod_lt m _ _ _ hm
  obtain ⟨l0, w0⟩ := came_labels h0
  obtain ⟨a1, len1, cap1, rfl⟩ := okWide_slice Try.underlying24 (hval 1 24 v1 rfl rfl)
  have k1 := h1
  have lt1 : ∀ x ∈ p1, x.block < W.heap.size := by obtain ⟨m, hm⟩ := k1; exact DataW.trod_lt m _ _ _ hm
  obtain ⟨l1, w1⟩ := came_bytes h1
  obtain ⟨a2, len2, cap2, rfl⟩ := okWide_slice Try.underlying24 (hval 2 24 v2 rfl rfl)
  have k2 := h2
  have lt2 : ∀ x ∈ p2, x.block < W.heap.size := by obtain ⟨m, hm⟩ := k2; exact DataW.trod_lt m _ _ _ hm
  obtain ⟨l2, w2⟩ := came_bytes h2
  clear hA0 hval0
  refine (walk a0 len0 cap0 l0 a1 len1 cap1 l1 a2 len2 cap2 l2 W w0 w1 w2).mono fun e W' ⟨he, bel⟩ => ?_
  subst he
  exact ⟨_, rfl, _, _, _, [], _, [], hW', trodAll_mk1 (shut_bool Try.underlying4 _), (trodAll_cons_mk (Below.trod laidOut (by kernel_rfl) (of_decide_eq_true (by kernel_rfl)) k0 bel lt0) (trodAll_cons_mk (Below.trod laidOut (by kernel_rfl) (of_decide_eq_true (by kernel_rfl)) k1 bel lt1) (trodAll_cons_mk (Below.trod laidOut (by kernel_rfl) (of_decide_eq_true (by kernel_rfl)) k2 bel lt2) trodAll_mk0))), rfl, bel.frame _, fun h => by cases h⟩

theorem over : Rows.labelBackRow.holds Try.pinned (OpenSpec.ofChange Rows.labelBackSpec) :=
  OpenClaim.holds_of_wide 3 Try.f3 rfl rfl rfl rfl rfl rfl rfl ⟨rfl, rfl, rfl, rfl, rfl⟩ rfl rfl rfl rfl rfl (by kernel_rfl) Try.func3 (by kernel_rfl)
    (of_decide_eq_true (by kernel_rfl)) (by unfold Func.isWrapper; first | (rw [if_pos (by decide +kernel)]; kernel_rfl) | (rw [if_neg (by decide +kernel)]; exact ⟨rfl, rfl⟩))
    (fun os started H enc _ => lifted os started H enc)

/-- The statement. -/
theorem proved : Rows.LabelBackSaid := over
#print axioms proved
end Go.Proofs.Ytlmpndmceiihaaa.labelBack
