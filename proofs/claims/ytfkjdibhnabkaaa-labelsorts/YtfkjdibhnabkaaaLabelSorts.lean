/-
  Proved: LabelSorts answers true for all inputs. No other condition.
-/
import Derived.Test.YtfkjdibhnabkaaaRows
import Derived.Test.YtfkjdibhnabkaaaI
import Derived.Test.YtfkjdibhnabkaaaX
import Derived.Test.YtfkjdibhnabkaaaAM
import Derived.ShutString
import Derived.ChangeOld
import Derived.Below
namespace Go.Proofs.Ytfkjdibhnabkaaa.labelSorts
open Go.ChangeShapes Go.WideShapes Go.ChangeAt Go.RowKit
open Go.ChangeMaps (open_string shut_string)
set_option linter.unusedVariables false

theorem drew_bel (w : World) : Below w.heap.size w w.drew := (Below.refl _ w).drew
theorem same_ok (W : World) (a a' : Option Addr) (n cap cap' : Nat) (R : List Lab) (h : HasB W a n cap R) (h' : HasB W a' n cap' R) :
    Calls Try.prog 10 #[.slice a n cap, .slice a' n cap'] W fun e w' => e = .returned (.bool true) ∧ Below W.heap.size W w' := by
  refine (sameB_any W a a' n n cap cap' R R h h').mono ?_
  rintro e w' ⟨rfl, m, rfl⟩
  exact ⟨by simp, below_drewN (Below.refl _ _) m⟩
set_option maxRecDepth 100000 in
set_option maxHeartbeats 4000000 in
theorem walk (a0 : Option Addr) (len0 cap0 : Nat) (l0 : List Lab) (a1 : Int) (w : World) (h0 : HasB w a0 len0 cap0 l0) (w1 : (Lit.int .i64 a1).wf = true) :
    Calls Try.prog 5 #[.slice a0 len0 cap0, .int .i64 a1] w fun e w' => e = .returned (.bool true) ∧ Below w.heap.size w w' := by
  have hf0 : Hid (∀ W, Below w.heap.size w W → Calls Try.prog 7 #[.slice a0 len0 cap0] W (Labs W (fewB l0))) := fun W b => few_any W a0 len0 cap0 l0 (h0.kept b (Nat.le_refl _))
  have hL : Hid ((fewB l0).length ≤ 1000) := by show _ ≤ _; rw [fewB_len]; omega
  clear h0
  have hw1 : Hid (-9223372036854775808 ≤ a1 ∧ a1 ≤ 9223372036854775807) := by simp [Lit.wf, IntKind.min, IntKind.max, IntKind.signed, IntKind.bits] at w1; show _ ∧ _; omega
  clear w1
  generalize fewB l0 = L at hf0 hL
  go_enter Try.func5, Try.ntmps5
  go_wp2_with fail
  refine (works_any _).mono ?_
  rintro e W1 ⟨rfl, B1⟩
  replace B1 := hide B1
  go_wp2_with fail
  refine (hf0.out W1 B1.out).mono ?_
  rintro e W2 ⟨b0, c0, rfl, G0, T2⟩
  have B2 := hide (B1.out.trans (T2.mono B1.out.size))
  have S1 := hide (sort_row W2 b0 L.length c0 L G0 hL.out)
  clear T2 B1 hf0 G0
  go_wp2_with fail
  refine S1.out.mono ?_
  rintro e W3 ⟨rfl | ⟨R, a3, c3, hc, rfl, H3⟩, B3⟩
  · have b3 := hide (B2.out.trans (B3.mono B2.out.size))
    clear B3 S1
    go_wp2_with fail
    go_ret
    exact ⟨rfl, b3.out⟩
  · have b3 := hide (B2.out.trans (B3.mono B2.out.size))
    clear B3 S1 B2
    have hlen := chkB_len hc
    obtain ⟨b, off, rfl, hbl, hcl⟩ := H3.cells hlen.1
    have hcap := H3.le
    have hcb := H3.capb
    unfold maxLen at hcb
    clear hcl
    have hR : Hid (∀ W a n cap X, HasB W a n cap X → X.Perm R → Calls Try.prog 13 #[.slice a n cap] W fun e w' => ∃ a' cap', e = .returned (.tuple #[.slice a' R.length cap', .int .i64 0]) ∧ HasB w' a' R.length cap' R ∧ Below W.heap.size W w') := fun W a n cap X h hp => sort_same W a n cap X R h hp hc
    have hck : Hid (∀ W a cap, HasB W a R.length cap R → Calls Try.prog 15 #[.slice a R.length cap] W fun e w' => e = .returned (.int .i64 0) ∧ Below W.heap.size W w') := fun W a cap h => by
      have := check_any W a R.length cap R h
      rwa [errB_yes hc] at this
    generalize hn : R.length = n at *
    have S2 := hide (hR.out W3 _ _ _ R H3 (List.Perm.refl _))
    replace H3 := hide H3
    replace hbl := hide hbl
    clear hc
    go_wp2_with fail
    refine S2.out.mono ?_
    rintro e W4 ⟨a4, c4, rfl, H4, B4⟩
    have b4 := hide (b3.out.trans (B4.mono b3.out.size))
    have G4 := hide (H3.out.kept B4 (Nat.le_refl _))
    replace H4 := hide H4
    have hbl4 : Hid (b < W4.heap.size) := Nat.lt_of_lt_of_le hbl.out B4.size
    clear B4 S2 H3 b3 hbl
    have AM := hide (fun W => among_any a1 n hw1.out (by omega) (by omega) W)
    have hk := amg_lt a1 n (by omega)
    generalize amg a1 n = k at AM hk
    go_wp2_with fail
    refine (AM.out _).mono ?_
    rintro e W5 ⟨rfl, rfl⟩
    clear AM
    have hkc : ¬ c3 = k := by omega
    have k1 : (k : Int) ≤ (n : Int) := by omega
    have k2 : (k : Int) ≤ (c3 : Int) := by omega
    have k3 : (0 : Int) ≤ (k : Int) := by omega
    have Bd : Hid (Below W5.drew.heap.size W5 (W5.drew.alloc (.cells #[] 39))) := (drew_bel W5).alloc (Nat.le_refl _) _
    have Gd := hide (G4.out.kept Bd.out (Nat.le_refl _))
    have Od := hide (ownsB_nil W5.drew W5.drew.heap.size (Nat.le_refl _))
    have hkle := hide (Nat.le_of_lt hk)
    go_wp2_with fail
    go_region_held3 (fun _ => True) (first | trivial) (first
      | (refine step_appS rfl (.tmp 36) (.tmp 39) rfl W5.drew.heap.size _ 0 [] rfl Od.out b (off + k * 2) (n - k) (c3 - k) (R.drop k) rfl (Gd.out.back k hkle.out).1 (Gd.out.back k hkle.out).2 (by omega) Bd.out.size (n - k) (by omega) (R.drop k) rfl ?_; intro v6 W6 O6 Gr6; have F6 := Bd.out.grown Gr6 Bd.out.size (fun q e => (Od.out.lt q e).1); obtain ⟨a6, c6, e6⟩ := slice_of_owns O6; subst e6; have G6 := hide (G4.out.kept F6 (Nat.le_refl _)))
      | (refine step_appS rfl (.tmp 40) (.tmp 43) rfl W5.drew.heap.size _ (n - k) (R.drop k) rfl O6 b off k c3 (R.take k) rfl (G6.out.head k hkle.out).1 (G6.out.head k hkle.out).2 (by omega) F6.size n (by omega) (R.drop k ++ R.take k) rfl ?_; intro v7 W7 O7 Gr7; have F7 := F6.grown Gr7 F6.size (fun q e => (O6.lt q e).1); obtain ⟨a7, c7, e7⟩ := slice_of_owns O7; subst e7)
      | (go_at_call 13; obtain ⟨a8, c8, e8, H8⟩ := hasB_of_owns O7; cases e8; refine (hR.out _ _ _ _ _ H8 (turned R k)).mono ?_; rintro e W8 ⟨a9, c9, rfl, H9, B9⟩; have F9 := F7.trans (B9.mono F7.size)))
    all_goals exact (by
      have x9 := hide (G4.out.kept F9 (Nat.le_refl _))
      have y9 := hide (H4.out.kept F9 (Nat.le_refl _))
      have b9 := hide (b4.out.trans (F9.mono b4.out.size))
      replace H9 := hide H9
      clear O6 O7 H8 F6 F7 F9 B9 Gr6 Gr7 G6 Bd Gd Od b4 H4 G4
      have S3 := hide (same_ok _ _ _ _ _ _ R x9.out y9.out)
      go_wp2_with fail
      refine S3.out.mono ?_
      rintro e W10 ⟨rfl, B10⟩
      have b10 := hide (b9.out.trans (B10.mono b9.out.size))
      have x10 := hide (x9.out.kept B10 (Nat.le_refl _))
      have z10 := hide (H9.out.kept B10 (Nat.le_refl _))
      clear S3 B10 x9 y9 H9 b9
      have S4 := hide (same_ok _ _ _ _ _ _ R x10.out z10.out)
      go_wp2_with fail
      refine S4.out.mono ?_
      rintro e W11 ⟨rfl, B11⟩
      have b11 := hide (b10.out.trans (B11.mono b10.out.size))
      have x11 := hide (x10.out.kept B11 (Nat.le_refl _))
      clear S4 B11 x10 z10 b10
      have S5 := hide (hck.out _ _ _ x11.out)
      go_wp2_with fail
      refine S5.out.mono ?_
      rintro e W12 ⟨rfl, B12⟩
      have b12 := hide (b11.out.trans (B12.mono b11.out.size))
      go_wp2_with fail
      go_ret
      exact ⟨rfl, b12.out⟩)

set_option maxRecDepth 100000 in
theorem lifted (os : Os) (started : os.Started) (H : Type) (enc : TypeId × Value → H) :
    ReturnsInHanded {} Try.checked os 5 .any (Rows.labelSortsSpec.pre6 enc Try.prog Try.f5 Rows.labelSortsRow.domain false) (Rows.labelSortsSpec.post enc Try.prog Try.f5 false true false false) := by
  refine returnsInHanded_of_change (C := Try.checked) own started (by kernel_rfl) Try.func5
    (ChangeSpec.witness6 (enc := enc) (C := Try.checked) false ⟨#[], #[.slice none 0 0, .int .i64 0], []⟩ 8 (by kernel_rfl) (by kernel_rfl) (by kernel_rfl) (by kernel_rfl)) ?_
  intro W base args ds gs before hval0 hW hcnd _
  have hval : ∀ (j : Nat) t v, Try.f5.params[j]? = some t → args[j]? = some v → Value.okWide Try.prog W .any base t v := hval0
  have hW' := hW
  obtain ⟨p, q, hA0, hV, rfl, hfz, hnd⟩ := hW
  have hA : DataW.TrodAll enc Try.prog W 0 (fun _ => true) true Try.f5.params.toList args.toList ds p := hA0
  rw [Try.params5] at hA hval
  obtain ⟨v0, vs0, d0, ds0, p0, q0, hargs, rfl, rfl, h0, r0⟩ := trodAll_cons hA
  obtain ⟨v1, vs1, d1, ds1, p1, q1, rfl, rfl, rfl, h1, r1⟩ := trodAll_cons r0
  obtain ⟨rfl, rfl, rfl⟩ := trodAll_nil r1
  obtain rfl : args = #[v0, v1] := by cases args; simp_all
  obtain ⟨rfl, rfl⟩ := trodVars_none hV
  obtain ⟨a0, len0, cap0, rfl⟩ := okWide_slice Try.underlying23 (hval 0 23 v0 rfl rfl)
  have k0 := h0
  have lt0 : ∀ x ∈ p0, x.block < W.heap.size := by obtain ⟨m, hm⟩ := k0; exact DataW.trod_lt m _ _ _ hm
  obtain ⟨l0, w0⟩ := came_labels h0
  obtain ⟨a1, rfl, rfl, rfl, w1⟩ := open_int Try.underlying3 (hval 1 3 v1 rfl rfl) h1
  clear hA0 hval0
  refine (walk a0 len0 cap0 l0 a1 W w0 w1).mono fun e W' ⟨he, bel⟩ => ?_
  subst he
  exact ⟨_, rfl, _, _, _, [], _, [], hW', trodAll_mk1 (shut_bool Try.underlying4 _), (trodAll_cons_mk (Below.trod laidOut (by kernel_rfl) (of_decide_eq_true (by kernel_rfl)) k0 bel lt0) (trodAll_cons_mk (shut_int Try.underlying3 w1) trodAll_mk0)), rfl, bel.frame _, fun h => by cases h⟩

theorem over : Rows.labelSortsRow.holds Try.pinned (OpenSpec.ofChange Rows.labelSortsSpec) :=
  OpenClaim.holds_of_wide 5 Try.f5 rfl rfl rfl rfl rfl rfl rfl ⟨rfl, rfl, rfl, rfl, rfl⟩ rfl rfl rfl rfl rfl (by kernel_rfl) Try.func5 (by kernel_rfl)
    (of_decide_eq_true (by kernel_rfl)) (by unfold Func.isWrapper; first | (rw [if_pos (by decide +kernel)]; kernel_rfl) | (rw [if_neg (by decide +kernel)]; exact ⟨rfl, rfl⟩))
    (fun os started H enc _ => lifted os started H enc)

/-- The statement. -/
theorem proved : Rows.LabelSortsSaid := over
#print axioms proved
end Go.Proofs.Ytfkjdibhnabkaaa.labelSorts
