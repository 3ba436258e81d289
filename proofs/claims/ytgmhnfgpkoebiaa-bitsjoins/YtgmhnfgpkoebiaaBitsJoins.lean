/-
  Proved: BitsJoins answers true for all inputs. No other condition.
-/
import Derived.Test.YtgmhnfgpkoebiaaRows
import Derived.Test.YtgmhnfgpkoebiaaI
import Derived.Test.YtgmhnfgpkoebiaaJ
import Derived.ShutString
import Derived.ChangeOld
import Derived.Below
namespace Go.Proofs.Ytgmhnfgpkoebiaa.bitsJoins
open Go.ChangeShapes Go.WideShapes Go.ChangeAt Go.RowKit
open Go.ChangeMaps (open_string shut_string)
set_option linter.unusedVariables false

theorem join_num (x y n m : Nat) (hm : m < 64) (hn : n + m ≤ 64) : ((y % 2 ^ m : Nat) : Int) + IntKind.u64.wrap (((x % 2 ^ n : Nat) : Int) * 2 ^ m) = ((x % 2 ^ n * 2 ^ m + y % 2 ^ m : Nat) : Int) ∧ x % 2 ^ n * 2 ^ m + y % 2 ^ m < 2 ^ (n + m) := by
  have h1 : x % 2 ^ n < 2 ^ n := Nat.mod_lt _ (Nat.two_pow_pos _)
  have h2 : y % 2 ^ m < 2 ^ m := Nat.mod_lt _ (Nat.two_pow_pos _)
  have h3 : x % 2 ^ n * 2 ^ m + y % 2 ^ m < 2 ^ (n + m) := by
    rw [Nat.pow_add]
    calc x % 2 ^ n * 2 ^ m + y % 2 ^ m < x % 2 ^ n * 2 ^ m + 2 ^ m := by omega
      _ = (x % 2 ^ n + 1) * 2 ^ m := by rw [Nat.add_mul, Nat.one_mul]
      _ ≤ 2 ^ n * 2 ^ m := Nat.mul_le_mul_right _ h1
  have h4 : 2 ^ (n + m) ≤ 2 ^ 64 := Nat.pow_le_pow_right (by decide) hn
  refine ⟨?_, h3⟩
  rw [IntKind.wrap_u64, show ((x % 2 ^ n : Nat) : Int) * 2 ^ m = ((x % 2 ^ n * 2 ^ m : Nat) : Int) by simp]
  generalize x % 2 ^ n * 2 ^ m = a at *
  generalize y % 2 ^ m = b at *
  omega

set_option maxHeartbeats 2000000 in
theorem walk (a0 a1 a2 a3 : Int) (w : World) (w0 : (Lit.int .u64 a0).wf = true) (w1 : (Lit.int .u64 a1).wf = true) (w2 : (Lit.int .i64 a2).wf = true) (w3 : (Lit.int .i64 a3).wf = true) :
    Calls Try.prog 6 #[.int .u64 a0, .int .u64 a1, .int .i64 a2, .int .i64 a3] w fun e w' => e = .returned (.bool true) ∧ Below w.heap.size w w' := by
  obtain ⟨h0, h0'⟩ := wf_u64 w0
  obtain ⟨h1, h1'⟩ := wf_u64 w1
  have h2 := hide (wf_i64 w2)
  have h3 := hide (wf_i64 w3)
  clear w0 w1 w2 w3
  obtain ⟨x, rfl⟩ := Int.eq_ofNat_of_zero_le h0
  obtain ⟨y, rfl⟩ := Int.eq_ofNat_of_zero_le h1
  have hx : x < 18446744073709551616 := by omega
  have hy : y < 18446744073709551616 := by omega
  obtain ⟨n, en⟩ : ∃ n, n = amg a2 65 := ⟨_, rfl⟩
  have hn : n < 65 := by rw [en]; exact amg_lt _ _ (by omega)
  obtain ⟨m, em⟩ : ∃ m, m = amg a3 (65 - n) := ⟨_, rfl⟩
  have hm : m < 65 - n := by rw [em]; exact amg_lt _ _ (by omega)
  have An := hide (fun w => among_any a2 65 h2.out (by omega) (by omega) w)
  have Am := hide (fun w => among_any a3 (65 - n) h3.out (by omega) (by omega) w)
  rw [← en] at An
  rw [← em, show ((65 - n : Nat) : Int) = 65 - (n : Int) by omega] at Am
  clear en em h2 h3
  by_cases hm64 : m < 64
  · have J := join_num x y n m hm64 (by omega)
    have hb : x % 2 ^ n * 2 ^ m + y % 2 ^ m < 18446744073709551616 := Nat.lt_of_lt_of_le J.2 (Nat.pow_le_pow_right (n := 2) (by decide) (show n + m ≤ 64 by omega))
    have hA : Hid (x % 2 ^ n * 2 ^ m + y % 2 ^ m = (x % 2 ^ n * 2 ^ m + y % 2 ^ m) % 2 ^ (n + m)) := (Nat.mod_eq_of_lt J.2).symm
    have LY := hide (fun w => low_any y m hy (by omega) w)
    have LX := hide (fun w => low_any x n hx (by omega) w)
    have j1 := J.1
    have hm' : (m : Int) < 64 := by omega
    obtain ⟨B, eB⟩ : ∃ B, x % 2 ^ n * 2 ^ m + y % 2 ^ m = B := ⟨_, rfl⟩
    obtain ⟨Y, eY⟩ : ∃ Y, y % 2 ^ m = Y := ⟨_, rfl⟩
    obtain ⟨X, eX⟩ : ∃ X, x % 2 ^ n = X := ⟨_, rfl⟩
    rw [eB] at hb j1 hA
    rw [eY] at LY j1
    rw [eX] at LX j1
    replace eB := hide eB
    replace eY := hide eY
    replace eX := hide eX
    clear J
    go_enter Try.func6, Try.ntmps6
    go_wp2_with fail
    refine (works_any _).mono ?_
    rintro e w1 ⟨rfl, B1⟩
    go_wp2_with fail
    refine (An.out _).mono ?_
    rintro e w1 ⟨rfl, rfl⟩
    go_wp2_with fail
    refine (Am.out _).mono ?_
    rintro e w1 ⟨rfl, rfl⟩
    go_wp2_with fail
    refine (newWr _ w.heap.size B1.size).mono ?_
    rintro e w2 ⟨p, rfl, B2, Wp, Np⟩
    have b2 := B1.trans (B2.mono B1.size)
    replace Wp := hide Wp
    replace Np := hide Np
    go_wp2_with fail
    refine (newWr _ w.heap.size b2.size).mono ?_
    rintro e w3 ⟨q, rfl, B3, Wq, Nq⟩
    have b3 := b2.trans (B3.mono b2.size)
    have D := hide (Wp.out.dis Nq)
    replace Wp := hide (Wp.out.below B3 (Nat.le_refl _))
    replace Wq := hide Wq
    clear Nq Np B2 B3
    go_wp2_with fail
    refine (putWr Wp.out x n hx (by omega) (by omega)).mono ?_
    rintro e w4 ⟨rfl, v4, Wp4, D4⟩
    have Q4 := hide (D4.wr D.out Wq.out)
    have b4 := b3.trans D4.bel
    replace Wp4 := hide Wp4
    clear Wp Wq D D4
    go_wp2_with fail
    refine (putWr Wp4.out y m hy (by omega) (by omega)).mono ?_
    rintro e w5 ⟨rfl, v5, Wp5, D5⟩
    have Q5 := hide (D5.wr Q4.out.2 Q4.out.1)
    have b5 := b4.trans D5.bel
    have Wp5 : Hid (Wr w5 w.heap.size p v5 (x % 2 ^ n * 2 ^ m + y % 2 ^ m) (n + m)) := by
      have := Wp5
      rwa [Nat.zero_mul, Nat.zero_add, Nat.zero_add] at this
    clear Wp4 Q4 D5
    have PQ := hide (putWr Q5.out.1 B (n + m) hb (by omega) (by omega))
    rw [show ((n + m : Nat) : Int) = (n : Int) + (m : Int) by omega] at PQ
    go_wp2_with fail
    refine (LY.out _).mono ?_
    rintro e w6 ⟨rfl, rfl⟩
    go_wp2_with fail
    refine (LX.out _).mono ?_
    rintro e w6 ⟨rfl, rfl⟩
    go_wp2_with fail
    refine PQ.out.mono ?_
    rintro e w7 ⟨rfl, v7, Wq7, D7⟩
    have Q7 := hide (D7.wr Q5.out.2.symm Wp5.out)
    have b7 := b5.trans D7.bel
    have Wq7 : Hid (Wr w7 w.heap.size q v7 (x % 2 ^ n * 2 ^ m + y % 2 ^ m) (n + m)) := by
      have := Wq7
      rwa [Nat.zero_mul, Nat.zero_add, Nat.zero_add, ← hA.out, ← eB.out] at this
    obtain ⟨l, Hl⟩ := Q7.out.1.holds
    replace Hl := hide Hl
    replace Q7 := hide Q7.out.1
    clear D7 Q5 PQ Wp5
    go_wp2_with fail
    refine (bytesWr Q7.out (by omega) l Hl.out).mono ?_
    rintro e w8 ⟨a8, n8, c8, rfl, H8, B8, -⟩
    have b8 := b7.trans (B8.mono b7.size)
    replace Q7 := hide (Q7.out.below B8 (Nat.le_refl _))
    replace Wq7 := hide (Wq7.out.below B8 (Nat.le_refl _))
    replace H8 := hide H8
    go_wp2_with fail
    refine (bytesWr Wq7.out (by omega) l Hl.out).mono ?_
    rintro e w9 ⟨a9, n9, c9, rfl, H9, B9, -⟩
    have b9 := b8.trans (B9.mono b8.size)
    replace Q7 := hide (Q7.out.below B9 (Nat.le_refl _))
    replace Wq7 := hide (Wq7.out.below B9 (Nat.le_refl _))
    replace H8 := hide (H8.out.kept B9 (Nat.le_refl _))
    replace H9 := hide H9
    go_wp2_with fail
    refine (same_yes _ _ _ _ _ _ _ _ _ H8.out H9.out rfl).mono ?_
    rintro e w10 ⟨rfl, rfl⟩
    go_wp2_with fail
    refine (lenWr Q7.out).mono ?_
    rintro e w11 ⟨rfl, rfl⟩
    go_wp2_with fail
    refine (lenWr Wq7.out).mono ?_
    rintro e w12 ⟨rfl, rfl⟩
    go_wp2_with fail
    go_ret
    exact ⟨by simp, b9⟩
  · obtain rfl : n = 0 := by omega
    obtain rfl : m = 64 := by omega
    have hb : x % 2 ^ 0 * 2 ^ 64 + y % 2 ^ 64 = y := by rw [Nat.pow_zero, Nat.mod_one, Nat.zero_mul, Nat.zero_add]; exact Nat.mod_eq_of_lt hy
    have hA : Hid (y = y % 2 ^ 64) := (Nat.mod_eq_of_lt hy).symm
    have LY := hide (fun w => low_any y 64 hy (by omega) w)
    rw [← hA.out] at LY
    have eB := hide hb
    clear hb
    go_enter Try.func6, Try.ntmps6
    go_wp2_with fail
    refine (works_any _).mono ?_
    rintro e w1 ⟨rfl, B1⟩
    go_wp2_with fail
    refine (An.out _).mono ?_
    rintro e w1 ⟨rfl, rfl⟩
    go_wp2_with fail
    refine (Am.out _).mono ?_
    rintro e w1 ⟨rfl, rfl⟩
    go_wp2_with fail
    refine (newWr _ w.heap.size B1.size).mono ?_
    rintro e w2 ⟨p, rfl, B2, Wp, Np⟩
    have b2 := B1.trans (B2.mono B1.size)
    replace Wp := hide Wp
    replace Np := hide Np
    go_wp2_with fail
    refine (newWr _ w.heap.size b2.size).mono ?_
    rintro e w3 ⟨q, rfl, B3, Wq, Nq⟩
    have b3 := b2.trans (B3.mono b2.size)
    have D := hide (Wp.out.dis Nq)
    replace Wp := hide (Wp.out.below B3 (Nat.le_refl _))
    replace Wq := hide Wq
    clear Nq Np B2 B3
    go_wp2_with fail
    refine (putWr Wp.out x 0 hx (by omega) (by omega)).mono ?_
    rintro e w4 ⟨rfl, v4, Wp4, D4⟩
    have Q4 := hide (D4.wr D.out Wq.out)
    have b4 := b3.trans D4.bel
    replace Wp4 := hide Wp4
    clear Wp Wq D D4
    go_wp2_with fail
    refine (putWr Wp4.out y 64 hy (by omega) (by omega)).mono ?_
    rintro e w5 ⟨rfl, v5, Wp5, D5⟩
    have Q5 := hide (D5.wr Q4.out.2 Q4.out.1)
    have b5 := b4.trans D5.bel
    have Wp5 : Hid (Wr w5 w.heap.size p v5 (x % 2 ^ 0 * 2 ^ 64 + y % 2 ^ 64) (0 + 64)) := by
      have := Wp5
      rwa [Nat.zero_mul, Nat.zero_add, Nat.zero_add] at this
    clear Wp4 Q4 D5
    have PQ := hide (putWr Q5.out.1 y (0 + 64) hy (by omega) (by omega))
    rw [show ((0 + 64 : Nat) : Int) = 64 by omega] at PQ
    go_wp2_with fail
    refine (LY.out _).mono ?_
    rintro e w6 ⟨rfl, rfl⟩
    go_wp2_with fail
    refine PQ.out.mono ?_
    rintro e w7 ⟨rfl, v7, Wq7, D7⟩
    have Q7 := hide (D7.wr Q5.out.2.symm Wp5.out)
    have b7 := b5.trans D7.bel
    have Wq7 : Hid (Wr w7 w.heap.size q v7 (x % 2 ^ 0 * 2 ^ 64 + y % 2 ^ 64) (0 + 64)) := by
      have := Wq7
      rwa [Nat.zero_mul, Nat.zero_add, Nat.zero_add, ← hA.out, ← eB.out] at this
    obtain ⟨l, Hl⟩ := Q7.out.1.holds
    replace Hl := hide Hl
    replace Q7 := hide Q7.out.1
    clear D7 Q5 PQ Wp5
    go_wp2_with fail
    refine (bytesWr Q7.out (by omega) l Hl.out).mono ?_
    rintro e w8 ⟨a8, n8, c8, rfl, H8, B8, -⟩
    have b8 := b7.trans (B8.mono b7.size)
    replace Q7 := hide (Q7.out.below B8 (Nat.le_refl _))
    replace Wq7 := hide (Wq7.out.below B8 (Nat.le_refl _))
    replace H8 := hide H8
    go_wp2_with fail
    refine (bytesWr Wq7.out (by omega) l Hl.out).mono ?_
    rintro e w9 ⟨a9, n9, c9, rfl, H9, B9, -⟩
    have b9 := b8.trans (B9.mono b8.size)
    replace Q7 := hide (Q7.out.below B9 (Nat.le_refl _))
    replace Wq7 := hide (Wq7.out.below B9 (Nat.le_refl _))
    replace H8 := hide (H8.out.kept B9 (Nat.le_refl _))
    replace H9 := hide H9
    go_wp2_with fail
    refine (same_yes _ _ _ _ _ _ _ _ _ H8.out H9.out rfl).mono ?_
    rintro e w10 ⟨rfl, rfl⟩
    go_wp2_with fail
    refine (lenWr Q7.out).mono ?_
    rintro e w11 ⟨rfl, rfl⟩
    go_wp2_with fail
    refine (lenWr Wq7.out).mono ?_
    rintro e w12 ⟨rfl, rfl⟩
    go_wp2_with fail
    go_ret
    exact ⟨by simp, b9⟩


set_option maxRecDepth 100000 in
theorem lifted (os : Os) (started : os.Started) (H : Type) (enc : TypeId × Value → H) :
    ReturnsInHanded {} Try.checked os 6 .any (Rows.bitsJoinsSpec.pre6 enc Try.prog Try.f6 Rows.bitsJoinsRow.domain false) (Rows.bitsJoinsSpec.post enc Try.prog Try.f6 false true false false) := by
  refine returnsInHanded_of_change (C := Try.checked) own started (by kernel_rfl) Try.func6
    (ChangeSpec.witness6 (enc := enc) (C := Try.checked) false ⟨#[], #[.int .u64 0, .int .u64 0, .int .i64 0, .int .i64 0], []⟩ 8 (by kernel_rfl) (by kernel_rfl) (by kernel_rfl) (by kernel_rfl)) ?_
  intro W base args ds gs before hval0 hW hcnd _
  have hval : ∀ (j : Nat) t v, Try.f6.params[j]? = some t → args[j]? = some v → Value.okWide Try.prog W .any base t v := hval0
  have hW' := hW
  obtain ⟨p, q, hA0, hV, rfl, hfz, hnd⟩ := hW
  have hA : DataW.TrodAll enc Try.prog W 0 (fun _ => true) true Try.f6.params.toList args.toList ds p := hA0
  rw [Try.params6] at hA hval
  obtain ⟨v0, vs0, d0, ds0, p0, q0, hargs, rfl, rfl, h0, r0⟩ := trodAll_cons hA
  obtain ⟨v1, vs1, d1, ds1, p1, q1, rfl, rfl, rfl, h1, r1⟩ := trodAll_cons r0
  obtain ⟨v2, vs2, d2, ds2, p2, q2, rfl, rfl, rfl, h2, r2⟩ := trodAll_cons r1
  obtain ⟨v3, vs3, d3, ds3, p3, q3, rfl, rfl, rfl, h3, r3⟩ := trodAll_cons r2
  obtain ⟨rfl, rfl, rfl⟩ := trodAll_nil r3
  obtain rfl : args = #[v0, v1, v2, v3] := by cases args; simp_all
  obtain ⟨rfl, rfl⟩ := trodVars_none hV
  obtain ⟨a0, rfl, rfl, rfl, w0⟩ := open_int Try.underlying31 (hval 0 31 v0 rfl rfl) h0
  obtain ⟨a1, rfl, rfl, rfl, w1⟩ := open_int Try.underlying31 (hval 1 31 v1 rfl rfl) h1
  obtain ⟨a2, rfl, rfl, rfl, w2⟩ := open_int Try.underlying3 (hval 2 3 v2 rfl rfl) h2
  obtain ⟨a3, rfl, rfl, rfl, w3⟩ := open_int Try.underlying3 (hval 3 3 v3 rfl rfl) h3
  clear hA0 hval0
  simp only [List.append_nil] at hW'
  refine (walk a0 a1 a2 a3 W w0 w1 w2 w3).mono fun e W' ⟨he, bel⟩ => ?_
  subst he
  exact ⟨_, rfl, _, _, _, [], _, [], hW', trodAll_mk1 (shut_bool Try.underlying4 _), (trodAll_cons_mk (shut_int Try.underlying31 w0) (trodAll_cons_mk (shut_int Try.underlying31 w1) (trodAll_cons_mk (shut_int Try.underlying3 w2) (trodAll_cons_mk (shut_int Try.underlying3 w3) trodAll_mk0)))), rfl, bel.frame _, fun h => by cases h⟩

theorem over : Rows.bitsJoinsRow.holds Try.pinned (OpenSpec.ofChange Rows.bitsJoinsSpec) :=
  OpenClaim.holds_of_wide 6 Try.f6 rfl rfl rfl rfl rfl rfl rfl ⟨rfl, rfl, rfl, rfl, rfl⟩ rfl rfl rfl rfl rfl (by kernel_rfl) Try.func6 (by kernel_rfl)
    (of_decide_eq_true (by kernel_rfl)) (by unfold Func.isWrapper; first | (rw [if_pos (by decide +kernel)]; kernel_rfl) | (rw [if_neg (by decide +kernel)]; exact ⟨rfl, rfl⟩))
    (fun os started H enc _ => lifted os started H enc)

/-- The statement. -/
theorem proved : Rows.BitsJoinsSaid := over
#print axioms proved
end Go.Proofs.Ytgmhnfgpkoebiaa.bitsJoins
