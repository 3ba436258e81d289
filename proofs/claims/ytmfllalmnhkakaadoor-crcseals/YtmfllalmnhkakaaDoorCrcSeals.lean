/-
  Proved: CrcSeals answers true for all inputs, with the package's listed variable as the program's own text lays it (the tied card). No other condition.
  The shell was written by the kit's program and turned by our own; the walk is ours.
-/
import Derived.Test.YtmfllalmnhkakaaDoorRows
import Derived.Test.YtmfllalmnhkakaaDoorTie
import Derived.Test.YtmfllalmnhkakaaDoorCards
import Derived.Test.YtmfllalmnhkakaaDoorI
import Derived.Test.YtmfllalmnhkakaaDoorJ
import Derived.ShutString
import Derived.ChangeOld
import Derived.SevenTiedAt
namespace Go.Proofs.YtmfllalmnhkakaaDoor.crcSeals
open Go.ChangeShapes Go.WideShapes Go.ChangeAt Go.RowKit
open Go.ChangeMaps (open_string shut_string)
set_option linter.unusedVariables false

set_option maxHeartbeats 2000000 in
theorem walk1 (s : Nat) (hs : s < 4294967296) (a0 : Option Addr) (len0 cap0 nb : Nat) (w : World) (ht : Tab w) (lb : List Int) (H : Has w a0 nb cap0 lb) (hnb : nb ≤ 300)
    (Sb : Hid (∀ w1, Below w.heap.size w w1 → Calls Tryd.prog 8 #[.slice a0 len0 cap0] w1 fun e w' => e = .returned (.slice a0 nb cap0) ∧ w' = w1))
    (m : List Int) (ok : Bool) (x n : Int)
    (O1 : Hid (∀ w a n cap, Has w a n cap lb → Tab w → Calls Tryd.prog 18 #[.slice a n cap] w (Opn w m ok)))
    (O2 : Hid (∀ w a n cap, Has w a n cap lb → Calls Tryd.prog 19 #[.slice a n cap] w (Opn w m ok)))
    (R1 : Hid (∀ w a m cap, Has w a m cap lb → Calls Tryd.prog 16 #[.slice a m cap] w fun e w' => e = .returned (.tuple #[.int .u32 x, .int .i64 n]) ∧ w' = w))
    (R2 : Hid (∀ w a m cap, Has w a m cap lb → Calls Tryd.prog 17 #[.slice a m cap] w fun e w' => e = .returned (.tuple #[.int .u32 x, .int .i64 n]) ∧ Below w.heap.size w w')) :
    Calls Tryd.prog 4 #[.slice a0 len0 cap0, .int .u32 (s : Int)] w fun e w' => e = .returned (.bool true) ∧ Below w.heap.size w w' := by
  have ht := hide ht
  have hs := hide hs
  have hlen := H.hlen
  go_enter Tryd.func4, Tryd.ntmps4
  go_wp2_with fail
  refine (Sb.out _ (Below.refl _ _)).mono ?_
  rintro e w1 ⟨rfl, rfl⟩
  go_wp2_with fail
  refine (bytes_any _ _ _ _ lb H (by omega)).mono ?_
  rintro e w2 ⟨a2, n2, c2, rfl, H2, b2, -⟩
  go_wp2_with fail
  refine (R1.out _ _ _ _ H2).mono ?_
  rintro e w3 ⟨rfl, rfl⟩
  go_wp2_with fail
  refine (R2.out _ _ _ _ (H.kept b2 (Nat.le_refl _))).mono ?_
  rintro e w4 ⟨rfl, B4⟩
  have b4 := b2.trans (B4.mono b2.size)
  clear H2
  go_wp2_with fail
  refine (bytes_any _ _ _ _ lb (H.kept b4 (Nat.le_refl _)) (by omega)).mono ?_
  rintro e w5 ⟨a5, n5, c5, rfl, H5, B5, -⟩
  have b5 := b4.trans (B5.mono b4.size)
  go_wp2_with fail
  refine (O1.out _ _ _ _ H5 (ht.out.kept b5 ht.out.pos)).mono ?_
  rintro e w6 ⟨a6, n6, c6, rfl, H6, B6⟩
  have b6 := b5.trans (B6.mono b5.size)
  clear H5
  go_wp2_with fail
  refine (O2.out _ _ _ _ (H.kept b6 (Nat.le_refl _))).mono ?_
  rintro e w7 ⟨a7, n7, c7, rfl, H7, B7⟩
  have b7 := b6.trans (B7.mono b6.size)
  have H6 := H6.kept B7 (Nat.le_refl _)
  go_wp2_with fail
  refine (bytes_any _ _ _ _ lb (H.kept b7 (Nat.le_refl _)) (by omega)).mono ?_
  rintro e w8 ⟨a8, n8, c8, rfl, H8, B8, -⟩
  have b8 := b7.trans (B8.mono b7.size)
  have H6 := H6.kept B8 (Nat.le_refl _)
  have H7 := H7.kept B8 (Nat.le_refl _)
  go_wp2_with fail
  refine (put_any _ _ _ _ lb H8 (by have := H8.hlen; omega) s hs.out).mono ?_
  rintro e w9 ⟨a9, n9, c9, rfl, H9, B9, -⟩
  have b9 := b8.trans (B9.mono b8.size)
  have H6 := H6.kept B9 (Nat.le_refl _)
  have H7 := H7.kept B9 (Nat.le_refl _)
  clear H8
  go_wp2_with fail
  refine (rput_any _ _ _ _ lb (H.kept b9 (Nat.le_refl _)) (by omega) s hs.out).mono ?_
  rintro e w10 ⟨a10, n10, c10, rfl, H10, B10, -⟩
  have b10 := b9.trans (B10.mono b9.size)
  have H6 := H6.kept B10 (Nat.le_refl _)
  have H7 := H7.kept B10 (Nat.le_refl _)
  go_wp2_with fail
  refine (same_yes _ _ _ _ _ _ _ _ _ (H9.kept B10 (Nat.le_refl _)) H10 rfl).mono ?_
  rintro e w11 ⟨rfl, rfl⟩
  clear H9 H10
  go_wp2_with fail
  refine (bytes_any _ _ _ _ lb (H.kept b10 (Nat.le_refl _)) (by omega)).mono ?_
  rintro e w12 ⟨a12, n12, c12, rfl, H12, B12, -⟩
  have b12 := b10.trans (B12.mono b10.size)
  have H6 := H6.kept B12 (Nat.le_refl _)
  have H7 := H7.kept B12 (Nat.le_refl _)
  go_wp2_with fail
  refine (sealed_any _ _ _ _ lb H12 (by have := H12.hlen; omega) (ht.out.kept b12 ht.out.pos)).mono ?_
  rintro e w13 ⟨a13, n13, c13, rfl, H13, B13, -⟩
  have b13 := b12.trans (B13.mono b12.size)
  have H6 := H6.kept B13 (Nat.le_refl _)
  have H7 := H7.kept B13 (Nat.le_refl _)
  clear H12
  go_wp2_with fail
  refine (rsealed_any _ _ _ _ lb (H.kept b13 (Nat.le_refl _)) (by omega)).mono ?_
  rintro e w14 ⟨a14, n14, c14, rfl, H14, B14, -⟩
  have b14 := b13.trans (B14.mono b13.size)
  have H6 := H6.kept B14 (Nat.le_refl _)
  have H7 := H7.kept B14 (Nat.le_refl _)
  go_wp2_with fail
  refine (same_yes _ _ _ _ _ _ _ _ _ (H13.kept B14 (Nat.le_refl _)) H14 rfl).mono ?_
  rintro e w15 ⟨rfl, rfl⟩
  clear H13 H14
  go_wp2_with fail
  refine (same_yes _ _ _ _ _ _ _ _ _ H6 H7 rfl).mono ?_
  rintro e w16 ⟨rfl, rfl⟩
  go_wp2_with fail
  refine (works_any _ (ht.out.kept b14 ht.out.pos)).mono ?_
  rintro e w17 ⟨rfl, B17⟩
  go_wp2
  go_ret
  exact ⟨rfl, b14.trans (B17.mono b14.size)⟩

theorem walk (a0 : Option Addr) (len0 cap0 : Nat) (z0 : List Int) (a1 : Int) (w : World) (ht : Tab w) (w0 : IsRow .u8 w a0 len0 cap0 z0) (w1 : (Lit.int .u32 a1).wf = true) :
    Calls Tryd.prog 4 #[.slice a0 len0 cap0, .int .u32 a1] w fun e w' => e = .returned (.bool true) ∧ Below w.heap.size w w' := by
  have h := wf_u32 w1
  obtain ⟨nb, lb, hnb, H, Sb⟩ := shorten w a0 len0 cap0 z0 w0
  obtain ⟨s, rfl⟩ : ∃ s : Nat, a1 = s := ⟨a1.toNat, by omega⟩
  obtain ⟨m, ok, O1, O2⟩ := open_both lb (by have := H.hlen; omega)
  obtain ⟨x, n, R1, R2⟩ := read_both lb
  exact walk1 s (by omega) a0 len0 cap0 nb w ht lb H hnb Sb m ok x n O1 O2 R1 R2

set_option maxRecDepth 100000 in
theorem lifted (os : Os) (started : os.Started) (H : Type) (enc : TypeId × Value → H) :
    ReturnsInHanded {} Tryd.checked os 4 .any (fun w args => (Rows.crcSealsSpec.pre enc Tryd.prog Tryd.f4 [] false w args ∧ laidMetH Tryd.prog laidAll w) ∧ sizedMet enc Tryd.prog Tryd.f4 (OpenSpec.ofChange Rows.crcSealsSpec) false w args) (Rows.crcSealsSpec.post enc Tryd.prog Tryd.f4 false true false false) := by
  refine returnsInHanded_of_change_and (C := Tryd.checked) (X := fun w _ => laidMetH Tryd.prog laidAll w) (fun _ _ _ hh h => h.of_heap hh) own started (by kernel_rfl) Tryd.func4
    (ChangeSpec.witness_shaped (enc := enc) (C := Tryd.checked) (os := os) (X := fun w _ => laidMetH Tryd.prog laidAll w) false (World.doorLaid Tryd.prog 400 os) #[.slice none 0 0, .int .u32 0] 8 rfl (World.shaped_of_RefB (by kernel_rfl) (by kernel_rfl)) (by kernel_rfl) (by kernel_rfl) (by kernel_rfl) (door_met os _)) ?_
  intro W base args ds gs before hval0 hW _ _ hL _
  have hval : ∀ (j : Nat) t v, Tryd.f4.params[j]? = some t → args[j]? = some v → Value.okWide Tryd.prog W .any base t v := hval0
  have hW' := hW
  obtain ⟨p, q, hA0, hV, rfl, hfz, hnd⟩ := hW
  have hA : DataW.TrodAll enc Tryd.prog W 0 (fun _ => true) true Tryd.f4.params.toList args.toList ds p := hA0
  rw [Tryd.params4] at hA hval
  obtain ⟨v0, vs0, d0, ds0, p0, q0, hargs, rfl, rfl, h0, r0⟩ := trodAll_cons hA
  obtain ⟨v1, vs1, d1, ds1, p1, q1, rfl, rfl, rfl, h1, r1⟩ := trodAll_cons r0
  obtain ⟨rfl, rfl, rfl⟩ := trodAll_nil r1
  obtain rfl : args = #[v0, v1] := by cases args; simp_all
  obtain ⟨rfl, rfl⟩ := trodVars_none hV
  obtain ⟨a0, len0, cap0, rfl⟩ := okWide_slice Tryd.underlying23 (hval 0 23 v0 rfl rfl)
  have k0 := h0
  have lt0 : ∀ x ∈ p0, x.block < W.heap.size := by obtain ⟨m, hm⟩ := k0; exact DataW.trod_lt m _ _ _ hm
  obtain ⟨z0, w0⟩ : ∃ zs, IsRow .u8 W a0 len0 cap0 zs := by
    obtain ⟨fuel, hf⟩ := h0
    rcases open_ints Tryd.underlying23 Tryd.underlying5 (by kernel_rfl) hf with ⟨hcs, _⟩ | ⟨x, l, c, zs, hcs, _, hl, hm, hz, _, hcell, hwz⟩
    · simp [Value.cells] at hcs
      obtain ⟨rfl, rfl, rfl⟩ := hcs
      exact ⟨[], .inl ⟨rfl, rfl, rfl, rfl⟩⟩
    · simp [Value.cells] at hcs
      obtain ⟨rfl, rfl, rfl⟩ := hcs
      exact ⟨zs, .inr ⟨_, rfl, hl, hm, by simpa using hz, hcell, hwz⟩⟩
  obtain ⟨a1, rfl, rfl, rfl, w1⟩ := open_int Tryd.underlying22 (hval 1 22 v1 rfl rfl) h1
  clear hA0 hval0
  have ht := facts_of_laid hL
  refine (walk a0 len0 cap0 z0 a1 W ht w0 w1).mono fun e W' ⟨he, bel⟩ => ?_
  subst he
  exact ⟨_, rfl, _, _, _, [], _, [], hW', trodAll_mk1 (shut_bool Tryd.underlying4 _), (trodAll_cons_mk (Below.trod laidOut (by kernel_rfl) (of_decide_eq_true (by kernel_rfl)) k0 bel lt0) (trodAll_cons_mk (shut_int Tryd.underlying22 w1) trodAll_mk0)), rfl, bel.frame _, fun h => by cases h⟩

theorem over : Rows.crcSealsRow.holds Tryd.pinned (OpenSpec.ofChange Rows.crcSealsSpec) :=
  OpenClaim.holds_of_wide 4 Tryd.f4 rfl rfl rfl rfl rfl rfl rfl ⟨rfl, rfl, rfl, rfl, rfl⟩ rfl rfl rfl rfl rfl (by kernel_rfl) Tryd.func4 (by kernel_rfl)
    (of_decide_eq_true (by kernel_rfl)) (by unfold Func.isWrapper; first | (rw [if_pos (by decide +kernel)]; kernel_rfl) | (rw [if_neg (by decide +kernel)]; exact ⟨rfl, rfl⟩))
    (fun os started H enc _ => lifted os started H enc)

/-- The statement: the tied card. -/
theorem proved : Rows.CrcSealsCardSaid :=
  Claim7.holds_tied_plain_at .later [] [.data] true _ false
    over (fun _ h => by cases h) (by kernel_rfl) (fun _ h => by cases h) crcSeals_row_tie rfl ⟨rfl, rfl⟩ (by kernel_rfl) rfl
    (fun f fn hf hfn => by
      obtain rfl : f = 4 := Option.some.inj ((show Tryd.prog.funcNamed "tidepole/tidepolelaw02.CrcSeals" = some 4 by kernel_rfl).symm.trans hf) |>.symm
      obtain rfl : fn = Tryd.f4 := (Option.some.inj (Tryd.func4.symm.trans hfn)).symm
      exact ⟨by kernel_rfl, fun j t ht => by
        rw [Tryd.params4] at ht
        have hm : t ∈ [23, 22] := by simpa using Array.mem_of_getElem? ht
        have hall : ([23, 22].all fun u => !Tryd.prog.wantsStandIn u) = true := by kernel_rfl
        exact (show Tryd.prog.wantsStandIn t = false by simpa using List.all_eq_true.1 hall t hm)⟩)
    (by kernel_rfl)
#print axioms proved
end Go.Proofs.YtmfllalmnhkakaaDoor.crcSeals
