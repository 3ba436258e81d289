/-
  Proved: VintBack answers true for all bytes b and x (as far as the statement looks, 200 of each), every number n of 64 bits and every number k with a sign: what was put is read back, and the place behind it is the end. No condition.
  The shell was written by the kit's program; the walk is ours.
-/
import Derived.Test.YthdgkkingajgnaaRows
import Derived.WalkKit
import Derived.ProofKit
import Derived.OpenShut
import Derived.ShutString
import Derived.ChangeOld
import Derived.Below
import Derived.Test.YthdgkkingajgnaaK
namespace Go.Proofs.Ythdgkkingajgnaa.vintBack
open Go.ChangeShapes Go.WideShapes Go.ChangeAt Go.RowKit
open Go.ChangeMaps (open_string shut_string)
set_option linter.unusedVariables false

theorem own : ownKnob Try.prog.godebug = none := by kernel_rfl
theorem laidOut : laidOutB Try.prog = true := by kernel_rfl

theorem shorten (w : World) (a0 : Option Addr) (len0 cap0 : Nat) (z0 : List Int) (w0 : IsRow .u8 w a0 len0 cap0 z0) :
    ∃ n l, n ≤ 200 ∧ Has w a0 n cap0 l ∧ ∀ w1, Below w.heap.size w w1 → Calls Try.prog 9 #[.slice a0 len0 cap0] w1 fun e w' => e = .returned (.slice a0 n cap0) ∧ w' = w1 := by
  have H0 := has_of_row w0
  refine ⟨min len0 200, _, by omega, H0.front _ (by omega), fun w1 B1 => ?_⟩
  exact short_any w1 a0 len0 cap0 _ (H0.kept B1 (Nat.le_refl _))

set_option maxHeartbeats 4000000 in
theorem walk (a0 : Option Addr) (len0 cap0 : Nat) (z0 : List Int) (a1 : Int) (a2 : Int) (a3 : Option Addr) (len3 cap3 : Nat) (z3 : List Int) (w : World) (w0 : IsRow .u8 w a0 len0 cap0 z0) (w1 : (Lit.int .u64 a1).wf = true) (w2 : (Lit.int .i64 a2).wf = true) (w3 : IsRow .u8 w a3 len3 cap3 z3) :
    Calls Try.prog 6 #[.slice a0 len0 cap0, .int .u64 a1, .int .i64 a2, .slice a3 len3 cap3] w fun e w' => e = .returned (.bool true) ∧ Below w.heap.size w w' := by
  obtain ⟨h0, h1⟩ := wf_u64 w1
  obtain ⟨k0, k1⟩ := wf_i64 w2
  obtain ⟨nb, lb, hnb, Hb, Sb⟩ := shorten w a0 len0 cap0 z0 w0
  obtain ⟨nx, lx, hnx, Hx, Sx⟩ := shorten w a3 len3 cap3 z3 w3
  have Sb := hide Sb
  have Sx := hide Sx
  have hlb := hide Hb.hlen
  have hlx := hide Hx.hlen
  clear w0 w1 w2 w3
  go_enter Try.func6, Try.ntmps6
  go_wp2_with fail
  refine (works_any _).mono ?_
  rintro e w1 ⟨rfl, B1⟩
  go_wp2_with fail
  refine (Sb.out _ B1).mono ?_
  rintro e w1 ⟨rfl, rfl⟩
  go_wp2_with fail
  refine (Sx.out _ B1).mono ?_
  rintro e w1 ⟨rfl, rfl⟩
  clear Sb Sx
  go_wp2_with fail
  refine (Put_any _ _ _ _ lb _ (Hb.kept B1 (Nat.le_refl _)) (by omega) h0 h1).mono ?_
  rintro e w2 ⟨ap, np, cp, rfl, Hp, B2, -⟩
  have b2 := B1.trans (B2.mono B1.size)
  go_wp2_with fail
  refine (PutInt_any _ _ _ _ lb _ (Hb.kept b2 (Nat.le_refl _)) (by omega) k0 k1).mono ?_
  rintro e w3 ⟨aq, nq, cq, rfl, Hq, B3, -⟩
  have b3 := b2.trans (B3.mono b2.size)
  go_wp2_with fail
  refine (PutBytes_any _ _ _ _ lb (Hb.kept b3 (Nat.le_refl _)) (by omega) _ _ _ lx (Hx.kept b3 (Nat.le_refl _)) (by omega)).mono ?_
  rintro e w4 ⟨ar, nr, cr, rfl, Hr, B4⟩
  have b4 := b3.trans (B4.mono b3.size)
  go_wp2_with fail
  have r1 := sz_range a1.toNat
  have r2 := sz_range (zig a2)
  have r3 := sz_range nx
  have hnp := hide (show np = nb + sz a1.toNat by rw [← Hp.hlen, List.length_append, hlb.out, enc_length])
  have hnq := hide (show nq = nb + sz (zig a2) by rw [← Hq.hlen, List.length_append, hlb.out, enc_length])
  have hnr := hide (show nr = nb + sz nx + nx by rw [← Hr.hlen, List.length_append, List.length_append, hlb.out, hlx.out, enc_length])
  have R1 := read_enc w4 ap np cp lb a1.toNat [] (by rw [List.append_nil]; exact (Hp.kept B3 (Nat.le_refl _)).kept B4 (Nat.le_refl _)) (by have := hnp.out; omega) (by omega) nb hlb.out
  rw [Int.toNat_of_nonneg h0] at R1
  have S1 := fun w => size_any a1 w h0 h1
  have e1 : ((nb : Int) + (sz a1.toNat : Int) == (np : Int)) = true := by rw [beq_iff_eq]; have := hnp.out; omega
  generalize sz a1.toNat = s1 at *
  have S1 := hide S1
  refine R1.mono ?_
  clear R1
  rintro e w5 ⟨rfl, B5⟩
  have b5 := b4.trans (B5.mono b4.size)
  go_wp2_with fail
  have R2 := readInt_enc w5 aq nq cq lb a2 [] (by rw [List.append_nil]; exact (Hq.kept B4 (Nat.le_refl _)).kept B5 (Nat.le_refl _)) (by have := hnq.out; omega) k0 k1 nb hlb.out
  have e2 : ((nb : Int) + (sz (zig a2) : Int) == (nq : Int)) = true := by rw [beq_iff_eq]; have := hnq.out; omega
  generalize sz (zig a2) = s2 at *
  refine R2.mono ?_
  clear R2
  rintro e w6 ⟨rfl, B6⟩
  have b6 := b5.trans (B6.mono b5.size)
  go_wp2_with fail
  have R3 := readBytes_enc w6 ar nr cr lb lx nx hlx.out (by rw [← List.append_assoc]; exact (Hr.kept B5 (Nat.le_refl _)).kept B6 (Nat.le_refl _)) (by have := hnr.out; omega) (by omega) nb hlb.out
  have e3 : ((nb : Int) + (sz nx : Int) + (nx : Int) == (nr : Int)) = true := by rw [beq_iff_eq]; have := hnr.out; omega
  generalize sz nx = s3 at *
  refine R3.mono ?_
  clear R3
  rintro e w7 ⟨ad, nd, cd, rfl, Hd, B7⟩
  have b7 := b6.trans (B7.mono b6.size)
  clear Hp Hq Hr
  go_wp2_with fail
  refine (same_yes _ _ _ _ _ _ _ _ _ Hd (Hx.kept b7 (Nat.le_refl _)) rfl).mono ?_
  rintro e w7 ⟨rfl, rfl⟩
  have e4 : ((nb : Int) + (s1 : Int) - (nb : Int) == (s1 : Int)) = true := by rw [beq_iff_eq]; omega
  go_wp2_with fail
  refine (S1.out _).mono ?_
  rintro e w7 ⟨rfl, rfl⟩
  go_wp2
  go_ret
  exact ⟨rfl, b7⟩

/-! ### THE ROW's STEP: WRITTEN OUT: LEAVE IT -/
set_option maxRecDepth 100000 in
theorem lifted (os : Os) (started : os.Started) (H : Type) (enc : TypeId × Value → H) :
    ReturnsInHanded {} Try.checked os 6 .any (Rows.vintBackSpec.pre6 enc Try.prog Try.f6 Rows.vintBackRow.domain false) (Rows.vintBackSpec.post enc Try.prog Try.f6 false true false false) := by
  refine returnsInHanded_of_change (C := Try.checked) own started (by kernel_rfl) Try.func6
    (ChangeSpec.witness6 (enc := enc) (C := Try.checked) false ⟨#[], #[.slice none 0 0, .int .u64 0, .int .i64 0, .slice none 0 0], []⟩ 8 (by kernel_rfl) (by kernel_rfl) (by kernel_rfl) (by kernel_rfl)) ?_
  intro W base args ds gs before hval0 hW hcnd _
  have hval : ∀ (j : Nat) t v, Try.f6.params[j]? = some t → args[j]? = some v → Value.okWide Try.prog W .any base t v := hval0
  have hW' := hW
  obtain ⟨p, q, hA0, hV, rfl, hfz, hnd⟩ := hW
  have hA : DataW.TrodAll enc Try.prog W 0 (fun _ => true) true Try.f6.params.toList args.toList ds p := hA0
  rw [Try.params6] at hA hval
  obtain ⟨v0, vs0, d0, ds0, p0, q0, hargs, rfl, rfl, h0, r0⟩ := trodAll_cons hA
  obtain ⟨v1, vs1, d1, ds1, p1, q1, rfl, rfl, rfl, h1, r1⟩ := trodAll_cons r0
  obtain ⟨v2, vs2, d2, ds2, p2, q2, rfl, rfl, rfl, h2, r2⟩ := trodAll_cons r1
  obtain ⟨v3, vs3, d3, ds3, p3, q3, rfl, rfl, rfl, h3, r3⟩ := trodAll_cons r2
  obtain ⟨rfl, rfl, rfl⟩ := trodAll_nil r3
  obtain rfl : args = #[v0, v1, v2, v3] := by cases args; simp_all
  obtain ⟨rfl, rfl⟩ := trodVars_none hV
  obtain ⟨a0, len0, cap0, rfl⟩ := okWide_slice Try.underlying22 (hval 0 22 v0 rfl rfl)
  have k0 := h0
  have lt0 : ∀ x ∈ p0, x.block < W.heap.size := by obtain ⟨m, hm⟩ := k0; exact DataW.trod_lt m _ _ _ hm
  obtain ⟨z0, w0⟩ : ∃ zs, IsRow .u8 W a0 len0 cap0 zs := by
    obtain ⟨fuel, hf⟩ := h0
    rcases open_ints Try.underlying22 Try.underlying5 (by kernel_rfl) hf with ⟨hcs, _⟩ | ⟨x, l, c, zs, hcs, _, hl, hm, hz, _, hcell, hwz⟩
    · simp [Value.cells] at hcs
      obtain ⟨rfl, rfl, rfl⟩ := hcs
      exact ⟨[], .inl ⟨rfl, rfl, rfl, rfl⟩⟩
    · simp [Value.cells] at hcs
      obtain ⟨rfl, rfl, rfl⟩ := hcs
      exact ⟨zs, .inr ⟨_, rfl, hl, hm, by simpa using hz, hcell, hwz⟩⟩
  obtain ⟨a1, rfl, rfl, rfl, w1⟩ := open_int Try.underlying23 (hval 1 23 v1 rfl rfl) h1
  obtain ⟨a2, rfl, rfl, rfl, w2⟩ := open_int Try.underlying3 (hval 2 3 v2 rfl rfl) h2
  obtain ⟨a3, len3, cap3, rfl⟩ := okWide_slice Try.underlying22 (hval 3 22 v3 rfl rfl)
  have k3 := h3
  have lt3 : ∀ x ∈ p3, x.block < W.heap.size := by obtain ⟨m, hm⟩ := k3; exact DataW.trod_lt m _ _ _ hm
  obtain ⟨z3, w3⟩ : ∃ zs, IsRow .u8 W a3 len3 cap3 zs := by
    obtain ⟨fuel, hf⟩ := h3
    rcases open_ints Try.underlying22 Try.underlying5 (by kernel_rfl) hf with ⟨hcs, _⟩ | ⟨x, l, c, zs, hcs, _, hl, hm, hz, _, hcell, hwz⟩
    · simp [Value.cells] at hcs
      obtain ⟨rfl, rfl, rfl⟩ := hcs
      exact ⟨[], .inl ⟨rfl, rfl, rfl, rfl⟩⟩
    · simp [Value.cells] at hcs
      obtain ⟨rfl, rfl, rfl⟩ := hcs
      exact ⟨zs, .inr ⟨_, rfl, hl, hm, by simpa using hz, hcell, hwz⟩⟩
  clear hA0 hval0
  refine (walk a0 len0 cap0 z0 a1 a2 a3 len3 cap3 z3 W w0 w1 w2 w3).mono fun e W' ⟨he, bel⟩ => ?_
  subst he
  exact ⟨_, rfl, _, _, _, [], _, [], hW', trodAll_mk1 (shut_bool Try.underlying4 _), (trodAll_cons_mk (Below.trod laidOut (by kernel_rfl) (of_decide_eq_true (by kernel_rfl)) k0 bel lt0) (trodAll_cons_mk (shut_int Try.underlying23 w1) (trodAll_cons_mk (shut_int Try.underlying3 w2) (trodAll_cons_mk (Below.trod laidOut (by kernel_rfl) (of_decide_eq_true (by kernel_rfl)) k3 bel lt3) trodAll_mk0)))), rfl, bel.frame _, fun h => by cases h⟩

theorem over : Rows.vintBackRow.holds Try.pinned (OpenSpec.ofChange Rows.vintBackSpec) :=
  OpenClaim.holds_of_wide 6 Try.f6 rfl rfl rfl rfl rfl rfl rfl ⟨rfl, rfl, rfl, rfl, rfl⟩ rfl rfl rfl rfl rfl (by kernel_rfl) Try.func6 (by kernel_rfl)
    (of_decide_eq_true (by kernel_rfl)) (by unfold Func.isWrapper; first | (rw [if_pos (by decide +kernel)]; kernel_rfl) | (rw [if_neg (by decide +kernel)]; exact ⟨rfl, rfl⟩))
    (fun os started H enc _ => lifted os started H enc)

/-- ████ THE STATEMENT ████ -/
theorem proved : Rows.VintBackSaid := over
#print axioms proved
end Go.Proofs.Ythdgkkingajgnaa.vintBack
