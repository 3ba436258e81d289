/-
  Proved: LabelUndone answers true for all inputs. No other condition.
-/
import Derived.Test.YtfkjdibhnabkaaaRows
import Derived.Test.YtfkjdibhnabkaaaI
import Derived.Test.YtfkjdibhnabkaaaX
import Derived.Test.YtfkjdibhnabkaaaY
import Derived.Test.YtfkjdibhnabkaaaAB
import Derived.ShutString
import Derived.ChangeOld
import Derived.Below
namespace Go.Proofs.Ytfkjdibhnabkaaa.labelUndone
open Go.ChangeShapes Go.WideShapes Go.ChangeAt Go.RowKit
open Go.ChangeMaps (open_string shut_string)
set_option linter.unusedVariables false

theorem drew_bel (w : World) : Below w.heap.size w w.drew := (Below.refl _ w).drew
set_option maxRecDepth 100000 in
set_option maxHeartbeats 4000000 in
theorem walk (a0 : Option Addr) (len0 cap0 : Nat) (l0 : List Lab) (a1 : Str) (a2 : Str) (w : World) (h0 : HasB w a0 len0 cap0 l0) (w1 : a1.size ≤ maxLen) (w2 : a2.size ≤ maxLen) :
    Calls Try.prog 6 #[.slice a0 len0 cap0, .string a1, .string a2] w fun e w' => e = .returned (.bool true) ∧ Below w.heap.size w w' := by
  have hf0 : Hid (∀ W, Below w.heap.size w W → Calls Try.prog 7 #[.slice a0 len0 cap0] W (Labs W (fewB l0))) := fun W b => few_any W a0 len0 cap0 l0 (h0.kept b (Nat.le_refl _))
  clear h0
  generalize fewB l0 = L at hf0
  obtain ⟨m0, hm0⟩ : ∃ m, min a1.size 100 = m := ⟨_, rfl⟩
  obtain ⟨m1, hm1⟩ : ∃ m, min a2.size 300 = m := ⟨_, rfl⟩
  have j0 : (m0 : Int) ≤ (a1.size : Int) := by omega
  have j1 : (m1 : Int) ≤ (a2.size : Int) := by omega
  have j2 : m0 ≤ a1.size := by omega
  have j3 : m1 ≤ a2.size := by omega
  replace hm0 := hide hm0
  replace hm1 := hide hm1
  clear w1 w2
  go_enter Try.func6, Try.ntmps6
  go_wp2_with fail
  refine (works_any _).mono ?_
  rintro e W1 ⟨rfl, B1⟩
  replace B1 := hide B1
  go_wp2_with fail
  refine (hf0.out W1 B1.out).mono ?_
  rintro e W2 ⟨b0, c0, rfl, G0, T2⟩
  have B2 := hide (B1.out.trans (T2.mono B1.out.size))
  replace G0 := hide G0
  clear T2 B1 hf0
  go_wp2_with fail
  go_region_held3 (fun _ => True) (first | trivial) (first
    | (refine step_min rfl (.tmp 17) (.const (.int .i64 100)) rfl a1.size 100 m0 rfl rfl hm0.out ?_)
    | (refine step_min rfl (.tmp 22) (.const (.int .i64 300)) rfl a2.size 300 m1 rfl rfl hm1.out ?_))
  all_goals exact (by
    have Gd := hide (G0.out.kept (drew_bel W2) (Nat.le_refl _))
    have Bd := hide (B2.out.trans ((drew_bel W2).mono B2.out.size))
    generalize ByteArray.extract a1 0 m0 = nm at *
    generalize ByteArray.extract a2 0 m1 = vv at *
    obtain ⟨W3, hW3⟩ : ∃ W3, W2.drew = W3 := ⟨_, rfl⟩
    rw [hW3] at Gd Bd ⊢
    clear hW3 G0 B2 hm0 hm1 j0 j1 j2 j3
    by_cases hc : chkB L = true
    · have r1 := hide (with_ok W3 _ _ _ L nm vv Gd.out hc)
      replace hc := hide hc
      go_wp2_with fail
      refine r1.out.mono ?_
      rintro e W4 ⟨R, pR, aR, hR, B4⟩
      have b4 := hide (Bd.out.trans (B4.mono Bd.out.size))
      have G4 := hide (Gd.out.kept B4 (Nat.le_refl _))
      replace pR := hide pR
      replace aR := hide aR
      clear r1 B4
      rcases hR with ⟨hcR, a4, c4, rfl, H4⟩ | ⟨_, rfl⟩
      · replace H4 := hide H4
        replace hcR := hide hcR
        go_wp2_with fail
        refine (get_any _ _ _ _ _ nm G4.out).mono ?_
        rintro e W5 ⟨rfl, B5⟩
        have b5 := hide (b4.out.trans (B5.mono b4.out.size))
        have G5 := hide (G4.out.kept B5 (Nat.le_refl _))
        have H5 := hide (H4.out.kept B5 (Nat.le_refl _))
        have r2 := hide (with_ok W5 _ _ _ R nm (getB L nm) H5.out hcR.out)
        clear B5 G4 H4 b4
        go_wp2_with fail
        refine r2.out.mono ?_
        rintro e W6 ⟨R2, p2, a2', hR2, B6⟩
        obtain rfl : R2 = L := undone_list hc.out pR.out aR.out hcR.out p2 a2'
        have b6 := hide (b5.out.trans (B6.mono b5.out.size))
        have G6 := hide (G5.out.kept B6 (Nat.le_refl _))
        have H6 := hide (H5.out.kept B6 (Nat.le_refl _))
        rcases hR2 with ⟨_, a6, c6, rfl, K6⟩ | ⟨hno, _⟩
        · replace K6 := hide K6
          have eg := hide (undone_get hc.out pR.out aR.out)
          clear r2 B6 G5 H5 b5 p2 a2'
          go_wp2_with fail
          refine (get_any _ _ _ _ _ nm H6.out).mono ?_
          rintro e W7 ⟨rfl, B7⟩
          rw [eg.out]
          have b7 := hide (b6.out.trans (B7.mono b6.out.size))
          have G7 := hide (G6.out.kept B7 (Nat.le_refl _))
          have K7 := hide (K6.out.kept B7 (Nat.le_refl _))
          have hq : (ByteArray.toList vv == ByteArray.toList vv) = true := by simp
          have SM := sameB_any W7 _ _ _ _ _ _ R2 R2 K7.out G7.out
          rw [show decide (R2 = R2) = true by simp] at SM
          replace SM := hide SM
          clear B7 G6 K6 b6 H6
          go_wp2_with fail
          refine SM.out.mono ?_
          rintro e W8 ⟨rfl, m8, rfl⟩
          go_wp2_with fail
          go_ret
          exact ⟨rfl, below_drewN b7.out m8⟩
        · rw [hc.out] at hno
          cases hno
      · go_wp2_with fail
        go_ret
        exact ⟨rfl, b4.out⟩
    · have r1 := hide (with_err W3 _ _ _ L nm vv Gd.out (by simpa using hc))
      replace hc := hide hc
      go_wp2_with fail
      refine r1.out.mono ?_
      rintro e W4 ⟨rfl, B4⟩
      have b4 := hide (Bd.out.trans (B4.mono Bd.out.size))
      go_wp2_with fail
      go_ret
      exact ⟨rfl, b4.out⟩)


set_option maxRecDepth 100000 in
theorem lifted (os : Os) (started : os.Started) (H : Type) (enc : TypeId × Value → H) :
    ReturnsInHanded {} Try.checked os 6 .any (Rows.labelUndoneSpec.pre6 enc Try.prog Try.f6 Rows.labelUndoneRow.domain false) (Rows.labelUndoneSpec.post enc Try.prog Try.f6 false true false false) := by
  refine returnsInHanded_of_change (C := Try.checked) own started (by kernel_rfl) Try.func6
    (ChangeSpec.witness6 (enc := enc) (C := Try.checked) false ⟨#[], #[.slice none 0 0, .string ByteArray.empty, .string ByteArray.empty], []⟩ 8 (by kernel_rfl) (by kernel_rfl) (by kernel_rfl) (by kernel_rfl)) ?_
  intro W base args ds gs before hval0 hW hcnd _
  have hval : ∀ (j : Nat) t v, Try.f6.params[j]? = some t → args[j]? = some v → Value.okWide Try.prog W .any base t v := hval0
  have hW' := hW
  obtain ⟨p, q, hA0, hV, rfl, hfz, hnd⟩ := hW
  have hA : DataW.TrodAll enc Try.prog W 0 (fun _ => true) true Try.f6.params.toList args.toList ds p := hA0
  rw [Try.params6] at hA hval
  obtain ⟨v0, vs0, d0, ds0, p0, q0, hargs, rfl, rfl, h0, r0⟩ := trodAll_cons hA
  obtain ⟨v1, vs1, d1, ds1, p1, q1, rfl, rfl, rfl, h1, r1⟩ := trodAll_cons r0
  obtain ⟨v2, vs2, d2, ds2, p2, q2, rfl, rfl, rfl, h2, r2⟩ := trodAll_cons r1
  obtain ⟨rfl, rfl, rfl⟩ := trodAll_nil r2
  obtain rfl : args = #[v0, v1, v2] := by cases args; simp_all
  obtain ⟨rfl, rfl⟩ := trodVars_none hV
  obtain ⟨a0, len0, cap0, rfl⟩ := okWide_slice Try.underlying23 (hval 0 23 v0 rfl rfl)
  have k0 := h0
  have lt0 : ∀ x ∈ p0, x.block < W.heap.size := by obtain ⟨m, hm⟩ := k0; exact DataW.trod_lt m _ _ _ hm
  obtain ⟨l0, w0⟩ := came_labels h0
  obtain ⟨a1, rfl, rfl, rfl, w1⟩ := open_string Try.underlying9 (hval 1 9 v1 rfl rfl) h1
  obtain ⟨a2, rfl, rfl, rfl, w2⟩ := open_string Try.underlying9 (hval 2 9 v2 rfl rfl) h2
  clear hA0 hval0
  refine (walk a0 len0 cap0 l0 a1 a2 W w0 w1 w2).mono fun e W' ⟨he, bel⟩ => ?_
  subst he
  exact ⟨_, rfl, _, _, _, [], _, [], hW', trodAll_mk1 (shut_bool Try.underlying4 _), (trodAll_cons_mk (Below.trod laidOut (by kernel_rfl) (of_decide_eq_true (by kernel_rfl)) k0 bel lt0) (trodAll_cons_mk (shut_string Try.underlying9 w1) (trodAll_cons_mk (shut_string Try.underlying9 w2) trodAll_mk0))), rfl, bel.frame _, fun h => by cases h⟩

theorem over : Rows.labelUndoneRow.holds Try.pinned (OpenSpec.ofChange Rows.labelUndoneSpec) :=
  OpenClaim.holds_of_wide 6 Try.f6 rfl rfl rfl rfl rfl rfl rfl ⟨rfl, rfl, rfl, rfl, rfl⟩ rfl rfl rfl rfl rfl (by kernel_rfl) Try.func6 (by kernel_rfl)
    (of_decide_eq_true (by kernel_rfl)) (by unfold Func.isWrapper; first | (rw [if_pos (by decide +kernel)]; kernel_rfl) | (rw [if_neg (by decide +kernel)]; exact ⟨rfl, rfl⟩))
    (fun os started H enc _ => lifted os started H enc)

/-- The statement. -/
theorem proved : Rows.LabelUndoneSaid := over
#print axioms proved
end Go.Proofs.Ytfkjdibhnabkaaa.labelUndone
