/-
  Proved: VintPuts answers true for all bytes b (as far as the statement looks, 200 of them), every number n of 64 bits and every number k with a sign: Put, PutInt and Size answer as the reference does, and the bytes that were handed in are as they were. No condition.
  The shell was written by the kit's program; the walk is ours.
-/
import Derived.Test.YthdgkkingajgnaaRows
import Derived.WalkKit
import Derived.ProofKit
import Derived.OpenShut
import Derived.ShutString
import Derived.ChangeOld
import Derived.Below
import Derived.Test.YthdgkkingajgnaaH
namespace Go.Proofs.Ythdgkkingajgnaa.vintPuts
open Go.ChangeShapes Go.WideShapes Go.ChangeAt Go.RowKit
open Go.ChangeMaps (open_string shut_string)
set_option linter.unusedVariables false

theorem own : ownKnob Try.prog.godebug = none := by kernel_rfl
theorem laidOut : laidOutB Try.prog = true := by kernel_rfl

set_option maxHeartbeats 2000000 in
theorem walk (a0 : Option Addr) (len0 cap0 : Nat) (z0 : List Int) (a1 : Int) (a2 : Int) (w : World) (w0 : IsRow .u8 w a0 len0 cap0 z0) (w1 : (Lit.int .u64 a1).wf = true) (w2 : (Lit.int .i64 a2).wf = true) :
    Calls Try.prog 3 #[.slice a0 len0 cap0, .int .u64 a1, .int .i64 a2] w fun e w' => e = .returned (.bool true) ∧ Below w.heap.size w w' := by
  obtain ⟨h0, h1⟩ := wf_u64 w1
  obtain ⟨k0, k1⟩ := wf_i64 w2
  have H0 := has_of_row w0
  obtain ⟨n, hn⟩ : ∃ n, n = min len0 200 := ⟨_, rfl⟩
  have hn200 : n ≤ 200 := by omega
  obtain ⟨l, H⟩ : ∃ l, Has w a0 n cap0 l := ⟨_, H0.front n (by omega)⟩
  have S : Hid (Calls Try.prog 9 #[.slice a0 len0 cap0] w fun e w' => e = .returned (.slice a0 n cap0) ∧ w' = w) := by
    have := short_any w a0 len0 cap0 _ H0
    rwa [← hn] at this
  clear w0 H0 hn w1 w2
  go_enter Try.func3, Try.ntmps3
  go_wp2_with fail
  refine S.out.mono ?_
  rintro e w' ⟨rfl, rfl⟩
  go_wp2_with fail
  refine (bytes_any _ _ _ _ l H (by omega)).mono ?_
  rintro e w1 ⟨a1', n1, c1, rfl, H1, B1, -⟩
  have hn1 : n1 = n := by rw [← H1.hlen, ← H.hlen]
  have hn1b : n1 ≤ 200 := by omega
  clear hn1
  go_wp2_with fail
  refine (Put_any _ _ _ _ l _ H1 (by omega) h0 h1).mono ?_
  rintro e w2 ⟨a2', n2, c2, rfl, H2, B2, -⟩
  go_wp2_with fail
  have b2 := B1.trans (B2.mono B1.size)
  refine (refPut_any _ _ _ _ l _ (H.kept b2 (Nat.le_refl _)) (by omega) h0 h1).mono ?_
  rintro e w3 ⟨a3', n3, c3, rfl, H3, B3, -⟩
  go_wp2_with fail
  refine (same_yes _ _ _ _ _ _ _ _ _ (H2.kept B3 (Nat.le_refl _)) H3 rfl).mono ?_
  rintro e w3 ⟨rfl, rfl⟩
  have b3 := b2.trans (B3.mono b2.size)
  have c3' := B2.trans (B3.mono B2.size)
  clear H2 H3 B3
  go_wp2_with fail
  refine (PutInt_any _ _ _ _ l _ (H1.kept c3' (Nat.le_refl _)) (by omega) k0 k1).mono ?_
  rintro e w4 ⟨a4', n4, c4, rfl, H4, B4, -⟩
  have b4 := b3.trans (B4.mono b3.size)
  have c4' := c3'.trans (B4.mono c3'.size)
  clear b3 c3'
  go_wp2_with fail
  refine (refPutInt_any _ _ _ _ l _ (H.kept b4 (Nat.le_refl _)) (by omega) k0 k1).mono ?_
  rintro e w5 ⟨a5', n5, c5, rfl, H5, B5, -⟩
  go_wp2_with fail
  refine (same_yes _ _ _ _ _ _ _ _ _ (H4.kept B5 (Nat.le_refl _)) H5 rfl).mono ?_
  rintro e w5 ⟨rfl, rfl⟩
  have b5 := b4.trans (B5.mono b4.size)
  have c5' := c4'.trans (B5.mono c4'.size)
  clear H4 H5 B5 b4 c4'
  go_wp2_with fail
  refine (size_any _ _ h0 h1).mono ?_
  rintro e w5 ⟨rfl, rfl⟩
  go_wp2_with fail
  refine (refSize_any _ _ h0 h1).mono ?_
  rintro e w6 ⟨rfl, B6⟩
  have b6 := b5.trans (B6.mono b5.size)
  have c6' := c5'.trans (B6.mono c5'.size)
  clear b5 c5'
  go_wp2_with fail
  refine (same_yes _ _ _ _ _ _ _ _ _ (H1.kept c6' (Nat.le_refl _)) (H.kept b6 (Nat.le_refl _)) rfl).mono ?_
  rintro e w6 ⟨rfl, rfl⟩
  go_wp2_with fail
  refine (works_any _).mono ?_
  rintro e w7 ⟨rfl, B7⟩
  go_wp2
  go_ret
  exact ⟨rfl, b6.trans (B7.mono b6.size)⟩

/-! ### THE ROW's STEP: WRITTEN OUT: LEAVE IT -/
set_option maxRecDepth 100000 in
theorem lifted (os : Os) (started : os.Started) (H : Type) (enc : TypeId × Value → H) :
    ReturnsInHanded {} Try.checked os 3 .any (Rows.vintPutsSpec.pre6 enc Try.prog Try.f3 Rows.vintPutsRow.domain false) (Rows.vintPutsSpec.post enc Try.prog Try.f3 false true false false) := by
  refine returnsInHanded_of_change (C := Try.checked) own started (by kernel_rfl) Try.func3
    (ChangeSpec.witness6 (enc := enc) (C := Try.checked) false ⟨#[], #[.slice none 0 0, .int .u64 0, .int .i64 0], []⟩ 8 (by kernel_rfl) (by kernel_rfl) (by kernel_rfl) (by kernel_rfl)) ?_
  intro W base args ds gs before hval0 hW hcnd _
  have hval : ∀ (j : Nat) t v, Try.f3.params[j]? = some t → args[j]? = some v → Value.okWide Try.prog W .any base t v := hval0
  have hW' := hW
  obtain ⟨p, q, hA0, hV, rfl, hfz, hnd⟩ := hW
  have hA : DataW.TrodAll enc Try.prog W 0 (fun _ => true) true Try.f3.params.toList args.toList ds p := hA0
  rw [Try.params3] at hA hval
  obtain ⟨v0, vs0, d0, ds0, p0, q0, hargs, rfl, rfl, h0, r0⟩ := trodAll_cons hA
  obtain ⟨v1, vs1, d1, ds1, p1, q1, rfl, rfl, rfl, h1, r1⟩ := trodAll_cons r0
  obtain ⟨v2, vs2, d2, ds2, p2, q2, rfl, rfl, rfl, h2, r2⟩ := trodAll_cons r1
  obtain ⟨rfl, rfl, rfl⟩ := trodAll_nil r2
  obtain rfl : args = #[v0, v1, v2] := by cases args; simp_all
  obtain ⟨rfl, rfl⟩ := trodVars_none hV
  obtain ⟨a0, len0, cap0, rfl⟩ := okWide_slice Try.underlying22 (hval 0 22 v0 rfl rfl)
  have k0 := h0
  have lt0 : ∀ x ∈ p0, x.block < W.heap.size := by obtain ⟨m, hm⟩ := k0; exact DataW.trod_lt m _ _ _ hm
  obtain ⟨z0, w0⟩ : ∃ zs, IsRow .u8 W a0 len0 cap0 zs := by
    obtain ⟨fuel, hf⟩ := h0
    rcases open_ints Try.underlying22 Try.underlying5 (by kernel_rfl) hf with ⟨hcs, _⟩ | ⟨x, l, c, zs, hcs, _, hl, hm, hz, _, hcell, hwz⟩
    · simp [Value.cells] at hcs
      obtain ⟨rfl, rfl, rfl⟩ := hcs
      exact ⟨[], .inl ⟨rfl, rfl, rfl, rfl⟩⟩
    · simp [Value.cells] at hcs
      obtain ⟨rfl, rfl, rfl⟩ := hcs
      exact ⟨zs, .inr ⟨_, rfl, hl, hm, by simpa using hz, hcell, hwz⟩⟩
  obtain ⟨a1, rfl, rfl, rfl, w1⟩ := open_int Try.underlying23 (hval 1 23 v1 rfl rfl) h1
  obtain ⟨a2, rfl, rfl, rfl, w2⟩ := open_int Try.underlying3 (hval 2 3 v2 rfl rfl) h2
  clear hA0 hval0
  refine (walk a0 len0 cap0 z0 a1 a2 W w0 w1 w2).mono fun e W' ⟨he, bel⟩ => ?_
  subst he
  exact ⟨_, rfl, _, _, _, [], _, [], hW', trodAll_mk1 (shut_bool Try.underlying4 _), (trodAll_cons_mk (Below.trod laidOut (by kernel_rfl) (of_decide_eq_true (by kernel_rfl)) k0 bel lt0) (trodAll_cons_mk (shut_int Try.underlying23 w1) (trodAll_cons_mk (shut_int Try.underlying3 w2) trodAll_mk0))), rfl, bel.frame _, fun h => by cases h⟩

theorem over : Rows.vintPutsRow.holds Try.pinned (OpenSpec.ofChange Rows.vintPutsSpec) :=
  OpenClaim.holds_of_wide 3 Try.f3 rfl rfl rfl rfl rfl rfl rfl ⟨rfl, rfl, rfl, rfl, rfl⟩ rfl rfl rfl rfl rfl (by kernel_rfl) Try.func3 (by kernel_rfl)
    (of_decide_eq_true (by kernel_rfl)) (by unfold Func.isWrapper; first | (rw [if_pos (by decide +kernel)]; kernel_rfl) | (rw [if_neg (by decide +kernel)]; exact ⟨rfl, rfl⟩))
    (fun os started H enc _ => lifted os started H enc)

/-- ████ THE STATEMENT ████ -/
theorem proved : Rows.VintPutsSaid := over
#print axioms proved
end Go.Proofs.Ythdgkkingajgnaa.vintPuts
