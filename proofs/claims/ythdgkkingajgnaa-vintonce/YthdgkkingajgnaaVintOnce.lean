/-
  Proved: VintOnce answers true for all bytes b (as far as the statement looks, 200 of them): what is read has, put again, just those bytes. No condition.
  The shell was written by the kit's program; the walk is ours.
-/
import Derived.Test.YthdgkkingajgnaaRows
import Derived.WalkKit
import Derived.ProofKit
import Derived.OpenShut
import Derived.ShutString
import Derived.ChangeOld
import Derived.Below
import Derived.Test.YthdgkkingajgnaaK
import Derived.Deep.RegionWith
import Derived.Deep.RegionHeld3
import Derived.Deep.CutRange
namespace Go.Proofs.Ythdgkkingajgnaa.vintOnce
open Go.ChangeShapes Go.WideShapes Go.ChangeAt Go.RowKit
open Go.ChangeMaps (open_string shut_string)
set_option linter.unusedVariables false

theorem own : ownKnob Try.prog.godebug = none := by kernel_rfl
theorem laidOut : laidOutB Try.prog = true := by kernel_rfl

theorem shorten (w : World) (a0 : Option Addr) (len0 cap0 : Nat) (z0 : List Int) (w0 : IsRow .u8 w a0 len0 cap0 z0) :
    ∃ n l, n ≤ 200 ∧ Has w a0 n cap0 l ∧ ∀ w1, Below w.heap.size w w1 → Calls Try.prog 9 #[.slice a0 len0 cap0] w1 fun e w' => e = .returned (.slice a0 n cap0) ∧ w' = w1 := by
  have H0 := has_of_row w0
  refine ⟨min len0 200, _, by omega, H0.front _ (by omega), fun w1 B1 => ?_⟩
  exact short_any w1 a0 len0 cap0 _ (H0.kept B1 (Nat.le_refl _))

/-- Nothing is read. -/
theorem walk_err (a0 : Option Addr) (len0 cap0 nb : Nat) (w : World) (n : Int) (hn : n ≠ 0) (hnb : nb ≤ 200)
    (Sb : Hid (∀ w1, Below w.heap.size w w1 → Calls Try.prog 9 #[.slice a0 len0 cap0] w1 fun e w' => e = .returned (.slice a0 nb cap0) ∧ w' = w1))
    (R : Hid (∀ w1, Below w.heap.size w w1 → Calls Try.prog 19 #[.slice a0 nb cap0, .int .i64 0] w1 fun e w' => e = .returned (.tuple #[.int .u64 0, .int .i64 0, .int .i64 n]) ∧ Below w1.heap.size w1 w')) :
    Calls Try.prog 7 #[.slice a0 len0 cap0] w fun e w' => e = .returned (.bool true) ∧ Below w.heap.size w w' := by
  have q1 : (n == 0) = false := by rw [beq_eq_false_iff_ne]; exact hn
  have q2 : (n == n) = true := by rw [beq_iff_eq]
  have q3 : (n != 0) = true := by rw [bne_iff_ne]; exact hn
  go_enter Try.func7, Try.ntmps7
  go_wp2_with fail
  refine (works_any _).mono ?_
  rintro e w1 ⟨rfl, B1⟩
  go_wp2_with fail
  refine (Sb.out _ B1).mono ?_
  rintro e w1 ⟨rfl, rfl⟩
  go_wp2_with fail
  refine (R.out _ B1).mono ?_
  rintro e w2 ⟨rfl, B2⟩
  have b2 := B1.trans (B2.mono B1.size)
  go_wp2_with fail
  go_quiet (fail)
  go_wp2_with fail
  refine (ReadInt_err _ _ _ _ hn (hide (R.out _ (below_drewN b2 _)))).mono ?_
  rintro e w3 ⟨rfl, B3⟩
  go_wp2_with fail
  go_quiet (fail)
  go_wp2
  go_ret
  have b3 := (below_drewN b2 _).trans (B3.mono (below_drewN b2 _).size)
  exact ⟨rfl, below_drewN b3 _⟩

set_option maxHeartbeats 2000000 in
/-- A number of m bytes is read. -/
theorem walk_ok (a0 : Option Addr) (len0 cap0 nb : Nat) (w : World) (lb : List Int) (H : Has w a0 nb cap0 lb) (hnb : nb ≤ 200) (m d : Nat) (hm1 : 1 ≤ m) (hm2 : m ≤ nb) (hd : d < 18446744073709551616) (he : lb.take m = enc d)
    (Sb : Hid (∀ w1, Below w.heap.size w w1 → Calls Try.prog 9 #[.slice a0 len0 cap0] w1 fun e w' => e = .returned (.slice a0 nb cap0) ∧ w' = w1))
    (R : Hid (∀ w1, Below w.heap.size w w1 → Calls Try.prog 19 #[.slice a0 nb cap0, .int .i64 0] w1 fun e w' => e = .returned (.tuple #[.int .u64 d, .int .i64 m, .int .i64 0]) ∧ Below w1.heap.size w1 w'))
    (RI : Hid (∀ w1, Below w.heap.size w w1 → Calls Try.prog 21 #[.slice a0 nb cap0, .int .i64 0] w1 fun e w' => e = .returned (.tuple #[.int .i64 (unzig d), .int .i64 m, .int .i64 0]) ∧ Below w1.heap.size w1 w')) :
    Calls Try.prog 7 #[.slice a0 len0 cap0] w fun e w' => e = .returned (.bool true) ∧ Below w.heap.size w w' := by
  have hcap := H.le
  have hcapb := H.capb
  unfold maxLen at hcapb
  have Hm : Has w a0 m cap0 (enc d) := by rw [← he]; exact H.front m hm2
  have t1 : decide ((m : Int) < 1) = false := by simp; omega
  have t2 : decide ((nb : Int) < (m : Int)) = false := by simp; omega
  have t2' : decide (nb < m) = false := by simp; omega
  have PU : Hid (∀ w1, Calls Try.prog 12 #[.slice none 0 0, .int .u64 d] w1 (Ret w1 (enc d))) := fun w1 => by
    have := Put_any w1 none 0 0 [] d (has_nil w1) (by omega) (by omega) (by omega)
    rwa [Int.toNat_natCast] at this
  have u := unzig_range d hd
  have PI : Hid (∀ w1, Calls Try.prog 14 #[.slice none 0 0, .int .i64 (unzig d)] w1 (Ret w1 (enc d))) := fun w1 => by
    have := PutInt_any w1 none 0 0 [] (unzig d) (has_nil w1) (by omega) u.1 u.2
    rwa [zig_unzig] at this
  clear he H
  go_enter Try.func7, Try.ntmps7
  go_wp2_with fail
  refine (works_any _).mono ?_
  rintro e w1 ⟨rfl, B1⟩
  go_wp2_with fail
  refine (Sb.out _ B1).mono ?_
  rintro e w1 ⟨rfl, rfl⟩
  go_wp2_with fail
  refine (R.out _ B1).mono ?_
  rintro e w2 ⟨rfl, B2⟩
  have b2 := B1.trans (B2.mono B1.size)
  clear Sb R
  go_wp2_with fail
  have hmc : (m : Int) ≤ (cap0 : Int) := by omega
  have hm0 : (0 : Int) ≤ (m : Int) := by omega
  go_region_held3 (fun _ => True) (trivial) (first
    | (go_at_call 12; refine (PU.out _).mono ?_; rintro e w3 ⟨a3, n3, c3, rfl, H3, B3, -⟩)
    | (go_at_call 11; refine (same_yes _ _ _ _ _ _ _ _ _ H3 ?_ rfl).mono ?_; exact Hm.kept (b2.drew.trans (B3.mono b2.size)) (Nat.le_refl _); rintro e w' ⟨rfl, rfl⟩))
  have b3 := b2.drew.trans (B3.mono b2.size)
  clear H3 B3 PU
  go_wp2_with fail
  refine (RI.out _ b3).mono ?_
  rintro e w4 ⟨rfl, B4⟩
  have b4 := b3.trans (B4.mono b3.size)
  go_wp2_with fail
  go_region_held3 (fun _ => True) (trivial) (first
    | (go_at_call 14; refine (PI.out _).mono ?_; rintro e w5 ⟨a5, n5, c5, rfl, H5, B5, -⟩)
    | (go_at_call 11; refine (same_yes _ _ _ _ _ _ _ _ _ H5 ?_ rfl).mono ?_; exact Hm.kept (b4.drew.trans (B5.mono b4.size)) (Nat.le_refl _); rintro e w' ⟨rfl, rfl⟩))
  have b5 := b4.drew.trans (B5.mono b4.size)
  go_wp2
  go_ret
  exact ⟨rfl, b5⟩

set_option maxHeartbeats 1000000 in
theorem walk (a0 : Option Addr) (len0 cap0 : Nat) (z0 : List Int) (w : World) (w0 : IsRow .u8 w a0 len0 cap0 z0) :
    Calls Try.prog 7 #[.slice a0 len0 cap0] w fun e w' => e = .returned (.bool true) ∧ Below w.heap.size w w' := by
  obtain ⟨nb, lb, hnb, Hb, Sb⟩ := shorten w a0 len0 cap0 z0 w0
  have Sb := hide Sb
  have hl := Hb.hlen
  by_cases hf : fs lb = 0
  · refine walk_err a0 len0 cap0 nb w 7 (by omega) hnb Sb (fun w1 B1 => ?_)
    exact Read_short w1 a0 nb cap0 lb 0 (Hb.kept B1 (Nat.le_refl _)) (by omega) (by omega) (by simpa using hf)
  · obtain ⟨k, hk⟩ : ∃ k, fs lb = k + 1 := ⟨fs lb - 1, by omega⟩
    by_cases hg : good (lb.take (k + 1))
    · have hN := num_of_fs lb hf
      rw [hk] at hN
      have hby : ∀ x ∈ lb.take (k + 1), 0 ≤ x ∧ x ≤ 255 := fun x hx => Hb.bytes x (List.mem_of_mem_take hx)
      have hdb := dec_bound _ hg (getD_bytes hby _).1 hN.pos
      have hle := fs_le lb
      have hlen : (lb.take (k + 1)).length = k + 1 := by simp; omega
      have he : lb.take (k + 1) = enc (dec (lb.take (k + 1))) := (enc_dec _ 9 hN hby (fun h1 h2 => hg.1 ⟨h1, h2⟩) (by have := hg.2.1; omega)).symm
      refine walk_ok a0 len0 cap0 nb w lb Hb hnb (k + 1) _ (by omega) (by omega) hdb he Sb (fun w1 B1 => ?_) (fun w1 B1 => ?_)
      · have := Read_ok w1 a0 nb cap0 lb 0 (Hb.kept B1 (Nat.le_refl _)) (by omega) (by omega) k (by simpa using hk) (by simpa using hg)
        simpa using this
      · have := ReadInt_ok w1 a0 nb cap0 lb 0 (Hb.kept B1 (Nat.le_refl _)) (by omega) (by omega) k (by simpa using hk) (by simpa using hg)
        simpa using this
    · refine walk_err a0 len0 cap0 nb w 10 (by omega) hnb Sb (fun w1 B1 => ?_)
      exact Read_vint w1 a0 nb cap0 lb 0 (Hb.kept B1 (Nat.le_refl _)) (by omega) (by omega) k (by simpa using hk) (by simpa using hg)

/-! ### THE ROW's STEP: WRITTEN OUT: LEAVE IT -/
set_option maxRecDepth 100000 in
theorem lifted (os : Os) (started : os.Started) (H : Type) (enc : TypeId × Value → H) :
    ReturnsInHanded {} Try.checked os 7 .any (Rows.vintOnceSpec.pre6 enc Try.prog Try.f7 Rows.vintOnceRow.domain false) (Rows.vintOnceSpec.post enc Try.prog Try.f7 false true false false) := by
  refine returnsInHanded_of_change (C := Try.checked) own started (by kernel_rfl) Try.func7
    (ChangeSpec.witness6 (enc := enc) (C := Try.checked) false ⟨#[], #[.slice none 0 0], []⟩ 8 (by kernel_rfl) (by kernel_rfl) (by kernel_rfl) (by kernel_rfl)) ?_
  intro W base args ds gs before hval0 hW hcnd _
  have hval : ∀ (j : Nat) t v, Try.f7.params[j]? = some t → args[j]? = some v → Value.okWide Try.prog W .any base t v := hval0
  have hW' := hW
  obtain ⟨p, q, hA0, hV, rfl, hfz, hnd⟩ := hW
  have hA : DataW.TrodAll enc Try.prog W 0 (fun _ => true) true Try.f7.params.toList args.toList ds p := hA0
  rw [Try.params7] at hA hval
  obtain ⟨v0, vs0, d0, ds0, p0, q0, hargs, rfl, rfl, h0, r0⟩ := trodAll_cons hA
  obtain ⟨rfl, rfl, rfl⟩ := trodAll_nil r0
  obtain rfl : args = #[v0] := by cases args; simp_all
  obtain ⟨rfl, rfl⟩ := trodVars_none hV
  obtain ⟨a0, len0, cap0, rfl⟩ := okWide_slice Try.underlying22 (hval 0 22 v0 rfl rfl)
  have k0 := h0
  have lt0 : ∀ x ∈ p0, x.block < W.heap.size := by obtain ⟨m, hm⟩ := k0; exact DataW.trod_lt m _ _ _ hm
  obtain ⟨z0, w0⟩ : ∃ zs, IsRow .u8 W a0 len0 cap0 zs := by
    obtain ⟨fuel, hf⟩ := h0
    rcases open_ints Try.underlying22 Try.underlying5 (by kernel_rfl) hf with ⟨hcs, _⟩ | ⟨x, l, c, zs, hcs, _, hl, hm, hz, _, hcell, hwz⟩
    · simp [Value.cells] at hcs
      obtain ⟨rfl, rfl, rfl⟩ := hcs
      exact ⟨[], .inl ⟨rfl, rfl, rfl, rfl⟩⟩
    · simp [Value.cells] at hcs
      obtain ⟨rfl, rfl, rfl⟩ := hcs
      exact ⟨zs, .inr ⟨_, rfl, hl, hm, by simpa using hz, hcell, hwz⟩⟩
  clear hA0 hval0
  refine (walk a0 len0 cap0 z0 W w0).mono fun e W' ⟨he, bel⟩ => ?_
  subst he
  exact ⟨_, rfl, _, _, _, [], _, [], hW', trodAll_mk1 (shut_bool Try.underlying4 _), (trodAll_cons_mk (Below.trod laidOut (by kernel_rfl) (of_decide_eq_true (by kernel_rfl)) k0 bel lt0) trodAll_mk0), rfl, bel.frame _, fun h => by cases h⟩

theorem over : Rows.vintOnceRow.holds Try.pinned (OpenSpec.ofChange Rows.vintOnceSpec) :=
  OpenClaim.holds_of_wide 7 Try.f7 rfl rfl rfl rfl rfl rfl rfl ⟨rfl, rfl, rfl, rfl, rfl⟩ rfl rfl rfl rfl rfl (by kernel_rfl) Try.func7 (by kernel_rfl)
    (of_decide_eq_true (by kernel_rfl)) (by unfold Func.isWrapper; first | (rw [if_pos (by decide +kernel)]; kernel_rfl) | (rw [if_neg (by decide +kernel)]; exact ⟨rfl, rfl⟩))
    (fun os started H enc _ => lifted os started H enc)

/-- ████ THE STATEMENT ████ -/
theorem proved : Rows.VintOnceSaid := over
#print axioms proved
end Go.Proofs.Ythdgkkingajgnaa.vintOnce
