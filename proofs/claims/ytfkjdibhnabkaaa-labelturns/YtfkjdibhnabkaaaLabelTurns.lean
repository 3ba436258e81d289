/-
  Proved: LabelTurns answers true for all inputs. No other condition.
-/
import Derived.Test.YtfkjdibhnabkaaaRows
import Derived.Test.YtfkjdibhnabkaaaI
import Derived.Test.YtfkjdibhnabkaaaX
import Derived.Test.YtfkjdibhnabkaaaAF
import Derived.ShutString
import Derived.ChangeOld
import Derived.Below
namespace Go.Proofs.Ytfkjdibhnabkaaa.labelTurns
open Go.ChangeShapes Go.WideShapes Go.ChangeAt Go.RowKit
open Go.ChangeMaps (open_string shut_string)
set_option linter.unusedVariables false

theorem drew_bel (w : World) : Below w.heap.size w w.drew := (Below.refl _ w).drew
theorem cut_size (s : Str) (c : Nat) : (cut s c).size = min s.size c := by
  unfold cut
  rw [ByteArray.size_extract]
  omega
theorem cut_cut (s : Str) (c : Nat) : cut (cut s c) c = cut s c := by
  have h : ∀ t : Str, t.extract 0 t.size = t := fun t => by
    apply ByteArray.ext
    simp
  have e : min (cut s c).size c = (cut s c).size := by rw [cut_size]; omega
  conv => lhs; unfold cut
  rw [show min (s.extract 0 (min s.size c)).size c = (s.extract 0 (min s.size c)).size from e]
  exact h _
theorem few_few (L : List Lab) : fewB (fewB L) = fewB L := by
  unfold fewB
  have e : ∀ M : List Lab, (M.map fun p => (cut p.1 65, cut p.2 257)).map (fun p => (cut p.1 65, cut p.2 257)) = M.map fun p => (cut p.1 65, cut p.2 257) := fun M => by
    rw [List.map_map]
    apply List.map_congr_left
    intro x _
    simp only [Function.comp, cut_cut]
  rw [List.take_of_length_le (show ((L.take 40).map fun p => (cut p.1 65, cut p.2 257)).length ≤ 40 by simp; omega)]
  exact e _
set_option maxRecDepth 100000 in
set_option maxHeartbeats 4000000 in
theorem walk (a0 : Option Addr) (len0 cap0 : Nat) (l0 : List Lab) (a1 : Str) (a2 : Str) (w : World) (h0 : HasB w a0 len0 cap0 l0) (w1 : a1.size ≤ maxLen) (w2 : a2.size ≤ maxLen) :
    Calls Try.prog 3 #[.slice a0 len0 cap0, .string a1, .string a2] w fun e w' => e = .returned (.bool true) ∧ Below w.heap.size w w' := by
  have hf0 := hide (few_any w a0 len0 cap0 l0 h0)
  have hff := few_few l0
  clear h0
  generalize fewB l0 = L at hf0 hff
  replace hff := hide hff
  obtain ⟨m0, hm0⟩ : ∃ m, min a1.size 65 = m := ⟨_, rfl⟩
  obtain ⟨m1, hm1⟩ : ∃ m, min a2.size 257 = m := ⟨_, rfl⟩
  have j0 : (m0 : Int) ≤ (a1.size : Int) := by omega
  have j1 : (m1 : Int) ≤ (a2.size : Int) := by omega
  have j2 : m0 ≤ a1.size := by omega
  have j3 : m1 ≤ a2.size := by omega
  replace hm0 := hide hm0
  replace hm1 := hide hm1
  clear w1 w2
  go_enter Try.func3, Try.ntmps3
  go_wp2_with fail
  refine hf0.out.mono ?_
  rintro e W2 ⟨b0, c0, rfl, G0, B2⟩
  replace B2 := hide B2
  replace G0 := hide G0
  clear hf0
  go_wp2_with fail
  go_region_held3 (fun _ => True) (first | trivial) (first
    | (refine step_min rfl (.tmp 16) (.const (.int .i64 65)) rfl a1.size 65 m0 rfl rfl hm0.out ?_)
    | (refine step_min rfl (.tmp 21) (.const (.int .i64 257)) rfl a2.size 257 m1 rfl rfl hm1.out ?_))
  all_goals exact (by
    have Gd := hide (G0.out.kept (drew_bel W2) (Nat.le_refl _))
    have Bd := hide (B2.out.trans ((drew_bel W2).mono B2.out.size))
    generalize ByteArray.extract a1 0 m0 = nm at *
    generalize ByteArray.extract a2 0 m1 = vv at *
    obtain ⟨W3, hW3⟩ : ∃ W3, W2.drew = W3 := ⟨_, rfl⟩
    rw [hW3] at Gd Bd ⊢
    clear hW3 G0 B2 hm0 hm1 j0 j1 j2 j3
    have f3 := few_any W3 _ _ _ L Gd.out
    rw [hff.out] at f3
    replace f3 := hide f3
    go_wp2_with fail
    refine f3.out.mono ?_
    rintro e W4 ⟨a4, c4, rfl, H4, T4⟩
    have b4 := hide (Bd.out.trans (T4.mono Bd.out.size))
    have G4 := hide (Gd.out.kept T4 (Nat.le_refl _))
    replace H4 := hide H4
    clear T4 f3 Gd Bd hff
    by_cases hc : chkB L = true
    · have r1 := hide (with_ok W4 _ _ _ L nm vv H4.out hc)
      go_wp2_with fail
      refine r1.out.mono ?_
      rintro e W5 ⟨R, pR, aR, hR, B5⟩
      have b5 := hide (b4.out.trans (B5.mono b4.out.size))
      have G5 := hide (G4.out.kept B5 (Nat.le_refl _))
      have H5 := hide (H4.out.kept B5 (Nat.le_refl _))
      have r2 := hide (rwith_ok W5 _ _ _ L nm vv G5.out hc)
      replace pR := hide pR
      replace aR := hide aR
      replace hc := hide hc
      clear r1 B5 G4 H4 b4
      rcases hR with ⟨hcR, a5, c5, rfl, K5⟩ | ⟨hcR, rfl⟩
      · replace K5 := hide K5
        replace hcR := hide hcR
        go_wp2_with fail
        refine r2.out.mono ?_
        rintro e W6 ⟨R2, p2, s2, hR2, B6⟩
        obtain rfl : R2 = R := asc_unique R2 R s2 aR.out (p2.trans pR.out.symm)
        have b6 := hide (b5.out.trans (B6.mono b5.out.size))
        have G6 := hide (G5.out.kept B6 (Nat.le_refl _))
        have H6 := hide (H5.out.kept B6 (Nat.le_refl _))
        have K6 := hide (K5.out.kept B6 (Nat.le_refl _))
        rcases hR2 with ⟨_, a6, c6, rfl, Y6⟩ | ⟨hno, _⟩
        · have SM := sameB_any W6 _ _ _ _ _ _ R2 R2 K6.out Y6
          rw [show decide (R2 = R2) = true by simp] at SM
          replace SM := hide SM
          have SO := hide (fun m => sameB_any (W6.drewN m) _ _ _ _ _ _ L L (H6.out.kept (below_drewN (Below.refl _ _) m) (Nat.le_refl _)) (G6.out.kept (below_drewN (Below.refl _ _) m) (Nat.le_refl _)))
          rw [show decide (L = L) = true by simp] at SO
          clear r2 B6 G5 H5 K5 b5 p2 s2 Y6
          go_wp2_with fail
          refine SM.out.mono ?_
          rintro e W7 ⟨rfl, m7, rfl⟩
          go_wp2_with fail
          refine (SO.out m7).mono ?_
          rintro e W8 ⟨rfl, m8, rfl⟩
          go_wp2_with fail
          refine (works_any _).mono ?_
          rintro e W9 ⟨rfl, B9⟩
          go_wp2_with fail
          go_ret
          exact ⟨rfl, (below_drewN b6.out (m7 + m8)).trans (B9.mono (below_drewN b6.out (m7 + m8)).size)⟩
        · rw [hcR.out] at hno
          cases hno
      · go_wp2_with fail
        refine r2.out.mono ?_
        rintro e W6 ⟨R2, p2, s2, hR2, B6⟩
        obtain rfl : R2 = R := asc_unique R2 R s2 aR.out (p2.trans pR.out.symm)
        have b6 := hide (b5.out.trans (B6.mono b5.out.size))
        have G6 := hide (G5.out.kept B6 (Nat.le_refl _))
        have H6 := hide (H5.out.kept B6 (Nat.le_refl _))
        rcases hR2 with ⟨hyes, _⟩ | ⟨_, rfl⟩
        · rw [hcR] at hyes
          cases hyes
        · have SM := sameB_any W6 _ _ _ _ _ _ [] [] (hasB_nil W6) (hasB_nil W6)
          rw [show decide (([] : List Lab) = []) = true by simp] at SM
          replace SM := hide SM
          have SO := hide (fun m => sameB_any (W6.drewN m) _ _ _ _ _ _ L L (H6.out.kept (below_drewN (Below.refl _ _) m) (Nat.le_refl _)) (G6.out.kept (below_drewN (Below.refl _ _) m) (Nat.le_refl _)))
          rw [show decide (L = L) = true by simp] at SO
          clear r2 B6 G5 H5 b5 p2 s2
          go_wp2_with fail
          refine SM.out.mono ?_
          rintro e W7 ⟨rfl, m7, rfl⟩
          go_wp2_with fail
          refine (SO.out m7).mono ?_
          rintro e W8 ⟨rfl, m8, rfl⟩
          go_wp2_with fail
          refine (works_any _).mono ?_
          rintro e W9 ⟨rfl, B9⟩
          go_wp2_with fail
          go_ret
          exact ⟨rfl, (below_drewN b6.out (m7 + m8)).trans (B9.mono (below_drewN b6.out (m7 + m8)).size)⟩
    · have r1 := hide (with_err W4 _ _ _ L nm vv H4.out (by simpa using hc))
      go_wp2_with fail
      refine r1.out.mono ?_
      rintro e W5 ⟨rfl, B5⟩
      have b5 := hide (b4.out.trans (B5.mono b4.out.size))
      have G5 := hide (G4.out.kept B5 (Nat.le_refl _))
      have H5 := hide (H4.out.kept B5 (Nat.le_refl _))
      have r2 := hide (rwith_err W5 _ _ _ L nm vv G5.out (by simpa using hc))
      replace hc := hide hc
      clear r1 B5 G4 H4 b4
      go_wp2_with fail
      refine r2.out.mono ?_
      rintro e W6 ⟨rfl, B6⟩
      have b6 := hide (b5.out.trans (B6.mono b5.out.size))
      have G6 := hide (G5.out.kept B6 (Nat.le_refl _))
      have H6 := hide (H5.out.kept B6 (Nat.le_refl _))
      have SM := sameB_any W6 _ _ _ _ _ _ [] [] (hasB_nil W6) (hasB_nil W6)
      rw [show decide (([] : List Lab) = []) = true by simp] at SM
      replace SM := hide SM
      have SO := hide (fun m => sameB_any (W6.drewN m) _ _ _ _ _ _ L L (H6.out.kept (below_drewN (Below.refl _ _) m) (Nat.le_refl _)) (G6.out.kept (below_drewN (Below.refl _ _) m) (Nat.le_refl _)))
      rw [show decide (L = L) = true by simp] at SO
      clear r2 B6 G5 H5 b5
      go_wp2_with fail
      refine SM.out.mono ?_
      rintro e W7 ⟨rfl, m7, rfl⟩
      go_wp2_with fail
      refine (SO.out m7).mono ?_
      rintro e W8 ⟨rfl, m8, rfl⟩
      go_wp2_with fail
      refine (works_any _).mono ?_
      rintro e W9 ⟨rfl, B9⟩
      go_wp2_with fail
      go_ret
      exact ⟨rfl, (below_drewN b6.out (m7 + m8)).trans (B9.mono (below_drewN b6.out (m7 + m8)).size)⟩)


set_option maxRecDepth 100000 in
theorem lifted (os : Os) (started : os.Started) (H : Type) (enc : TypeId × Value → H) :
    ReturnsInHanded {} Try.checked os 3 .any (Rows.labelTurnsSpec.pre6 enc Try.prog Try.f3 Rows.labelTurnsRow.domain false) (Rows.labelTurnsSpec.post enc Try.prog Try.f3 false true false false) := by
  refine returnsInHanded_of_change (C := Try.checked) own started (by kernel_rfl) Try.func3
    (ChangeSpec.witness6 (enc := enc) (C := Try.checked) false ⟨#[], #[.slice none 0 0, .string ByteArray.empty, .string ByteArray.empty], []⟩ 8 (by kernel_rfl) (by kernel_rfl) (by kernel_rfl) (by kernel_rfl)) ?_
  intro W base args ds gs before hval0 hW hcnd _
  have hval : ∀ (j : Nat) t v, Try.f3.params[j]? = some t → args[j]? = some v → Value.okWide Try.prog W .any base t v := hval0
  have hW' := hW
  obtain ⟨p, q, hA0, hV, rfl, hfz, hnd⟩ := hW
  have hA : DataW.TrodAll enc Try.prog W 0 (fun _ => true) true Try.f3.params.toList args.toList ds p := hA0
  rw [Try.params3] at hA hval
  obtain ⟨v0, vs0, d0, ds0, p0, q0, hargs, rfl, rfl, h0, r0⟩ := trodAll_cons hA
  obtain ⟨v1, vs1, d1, ds1, p1, q1, rfl, rfl, rfl, h1, r1⟩ := trodAll_cons r0
  obtain ⟨v2, vs2, d2, ds2, p2, q2, rfl, rfl, rfl, h2, r2⟩ := trodAll_cons r1
  obtain ⟨rfl, rfl, rfl⟩ := trodAll_nil r2
  obtain rfl : args = #[v0, v1, v2] := by cases args; simp_all
  obtain ⟨rfl, rfl⟩ := trodVars_none hV
  obtain ⟨a0, len0, cap0, rfl⟩ := okWide_slice Try.underlying23 (hval 0 23 v0 rfl rfl)
  have k0 := h0
  have lt0 : ∀ x ∈ p0, x.block < W.heap.size := by obtain ⟨m, hm⟩ := k0; exact DataW.trod_lt m _ _ _ hm
  obtain ⟨l0, w0⟩ := came_labels h0
  obtain ⟨a1, rfl, rfl, rfl, w1⟩ := open_string Try.underlying9 (hval 1 9 v1 rfl rfl) h1
  obtain ⟨a2, rfl, rfl, rfl, w2⟩ := open_string Try.underlying9 (hval 2 9 v2 rfl rfl) h2
  clear hA0 hval0
  refine (walk a0 len0 cap0 l0 a1 a2 W w0 w1 w2).mono fun e W' ⟨he, bel⟩ => ?_
  subst he
  exact ⟨_, rfl, _, _, _, [], _, [], hW', trodAll_mk1 (shut_bool Try.underlying4 _), (trodAll_cons_mk (Below.trod laidOut (by kernel_rfl) (of_decide_eq_true (by kernel_rfl)) k0 bel lt0) (trodAll_cons_mk (shut_string Try.underlying9 w1) (trodAll_cons_mk (shut_string Try.underlying9 w2) trodAll_mk0))), rfl, bel.frame _, fun h => by cases h⟩

theorem over : Rows.labelTurnsRow.holds Try.pinned (OpenSpec.ofChange Rows.labelTurnsSpec) :=
  OpenClaim.holds_of_wide 3 Try.f3 rfl rfl rfl rfl rfl rfl rfl ⟨rfl, rfl, rfl, rfl, rfl⟩ rfl rfl rfl rfl rfl (by kernel_rfl) Try.func3 (by kernel_rfl)
    (of_decide_eq_true (by kernel_rfl)) (by unfold Func.isWrapper; first | (rw [if_pos (by decide +kernel)]; kernel_rfl) | (rw [if_neg (by decide +kernel)]; exact ⟨rfl, rfl⟩))
    (fun os started H enc _ => lifted os started H enc)

/-- The statement. -/
theorem proved : Rows.LabelTurnsSaid := over
#print axioms proved
end Go.Proofs.Ytfkjdibhnabkaaa.labelTurns
