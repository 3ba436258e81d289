/-
  Proved: CrcOpens answers true for all inputs, with the package's listed variable as the program's own text lays it (the tied card). No other condition.
  The shell was written by the kit's program and turned by our own; the walk is ours.
-/
import Derived.Test.YtmfllalmnhkakaaDoorRows
import Derived.Test.YtmfllalmnhkakaaDoorTie
import Derived.Test.YtmfllalmnhkakaaDoorCards
import Derived.Test.YtmfllalmnhkakaaDoorI
import Derived.ShutString
import Derived.ChangeOld
import Derived.SevenTiedAt
namespace Go.Proofs.YtmfllalmnhkakaaDoor.crcOpens
open Go.ChangeShapes Go.WideShapes Go.ChangeAt Go.RowKit
open Go.ChangeMaps (open_string shut_string)
set_option linter.unusedVariables false

theorem shorten (w : World) (a0 : Option Addr) (len0 cap0 : Nat) (z0 : List Int) (w0 : IsRow .u8 w a0 len0 cap0 z0) :
    ∃ n l, n ≤ 300 ∧ Has w a0 n cap0 l ∧ ∀ w1, Below w.heap.size w w1 → Calls Tryd.prog 8 #[.slice a0 len0 cap0] w1 fun e w' => e = .returned (.slice a0 n cap0) ∧ w' = w1 := by
  have H0 := has_of_row w0
  refine ⟨min len0 300, _, by omega, H0.front _ (by omega), fun w1 B1 => ?_⟩
  exact short_any w1 a0 len0 cap0 _ (H0.kept B1 (Nat.le_refl _))

set_option maxHeartbeats 1000000 in
/-- What came in is not whole. -/
theorem walk_not (a0 : Option Addr) (len0 cap0 nb : Nat) (w : World) (ht : Tab w) (lb : List Int) (H : Has w a0 nb cap0 lb) (hnb : nb ≤ 300)
    (Sb : Hid (∀ w1, Below w.heap.size w w1 → Calls Tryd.prog 8 #[.slice a0 len0 cap0] w1 fun e w' => e = .returned (.slice a0 nb cap0) ∧ w' = w1))
    (R : Hid (∀ w1, Below w.heap.size w w1 → Calls Tryd.prog 18 #[.slice a0 nb cap0] w1 (None2 w1))) :
    Calls Tryd.prog 7 #[.slice a0 len0 cap0] w fun e w' => e = .returned (.bool true) ∧ Below w.heap.size w w' := by
  have ht := hide ht
  go_enter Tryd.func7, Tryd.ntmps7
  go_wp2_with fail
  refine (works_any _ ht.out).mono ?_
  rintro e w1 ⟨rfl, B1⟩
  go_wp2_with fail
  refine (Sb.out _ B1).mono ?_
  rintro e w1 ⟨rfl, rfl⟩
  go_wp2_with fail
  refine (sealed_any _ _ _ _ lb (H.kept B1 (Nat.le_refl _)) (by omega) (ht.out.kept B1 ht.out.pos)).mono ?_
  rintro e w2 ⟨a2, n2, c2, rfl, H2, B2, -⟩
  have b2 := B1.trans (B2.mono B1.size)
  have hn2 : n2 ≤ 1099511627776 := by have h1 := H2.hlen; have h2 := H.hlen; rw [List.length_append] at h1; simp [sumBytes] at h1; omega
  go_wp2_with fail
  refine (open_sealed _ _ _ _ lb H2 H.bytes hn2 (ht.out.kept b2 ht.out.pos)).mono ?_
  rintro e w3 ⟨a3, n3, c3, rfl, H3, B3⟩
  have b3 := b2.trans (B3.mono b2.size)
  clear H2
  go_wp2_with fail
  refine (R.out _ b3).mono ?_
  rintro e w4 ⟨rfl, B4⟩
  have b4 := b3.trans (B4.mono b3.size)
  go_wp2_with fail
  refine (same_yes _ _ _ _ _ _ _ _ _ (H3.kept B4 (Nat.le_refl _)) (H.kept b4 (Nat.le_refl _)) rfl).mono ?_
  rintro e w5 ⟨rfl, rfl⟩
  go_wp2
  go_ret
  exact ⟨rfl, b4⟩

set_option maxHeartbeats 1000000 in
/-- What came in is whole. -/
theorem walk_whole (a0 : Option Addr) (len0 cap0 nb : Nat) (w : World) (ht : Tab w) (lb m : List Int) (H : Has w a0 nb cap0 lb) (hnb : nb ≤ 300) (hm : lb = m ++ sumBytes (more 0 m))
    (Sb : Hid (∀ w1, Below w.heap.size w w1 → Calls Tryd.prog 8 #[.slice a0 len0 cap0] w1 fun e w' => e = .returned (.slice a0 nb cap0) ∧ w' = w1))
    (R : Hid (∀ w1, Below w.heap.size w w1 → Calls Tryd.prog 18 #[.slice a0 nb cap0] w1 (Some2 w1 m))) :
    Calls Tryd.prog 7 #[.slice a0 len0 cap0] w fun e w' => e = .returned (.bool true) ∧ Below w.heap.size w w' := by
  have ht := hide ht
  have hm := hide hm
  go_enter Tryd.func7, Tryd.ntmps7
  go_wp2_with fail
  refine (works_any _ ht.out).mono ?_
  rintro e w1 ⟨rfl, B1⟩
  go_wp2_with fail
  refine (Sb.out _ B1).mono ?_
  rintro e w1 ⟨rfl, rfl⟩
  go_wp2_with fail
  refine (sealed_any _ _ _ _ lb (H.kept B1 (Nat.le_refl _)) (by omega) (ht.out.kept B1 ht.out.pos)).mono ?_
  rintro e w2 ⟨a2, n2, c2, rfl, H2, B2, -⟩
  have b2 := B1.trans (B2.mono B1.size)
  have hn2 : n2 ≤ 1099511627776 := by have h1 := H2.hlen; have h2 := H.hlen; rw [List.length_append] at h1; simp [sumBytes] at h1; omega
  go_wp2_with fail
  refine (open_sealed _ _ _ _ lb H2 H.bytes hn2 (ht.out.kept b2 ht.out.pos)).mono ?_
  rintro e w3 ⟨a3, n3, c3, rfl, H3, B3⟩
  have b3 := b2.trans (B3.mono b2.size)
  clear H2
  go_wp2_with fail
  refine (R.out _ b3).mono ?_
  rintro e w4 ⟨a4, n4, c4, rfl, H4, B4⟩
  have b4 := b3.trans (B4.mono b3.size)
  have hn4 : n4 ≤ 1099511627776 := by have h1 := H4.hlen; have h2 := H.hlen; rw [hm.out, List.length_append] at h2; simp [sumBytes] at h2; omega
  go_wp2_with fail
  refine (same_yes _ _ _ _ _ _ _ _ _ (H3.kept B4 (Nat.le_refl _)) (H.kept b4 (Nat.le_refl _)) rfl).mono ?_
  rintro e w5 ⟨rfl, rfl⟩
  clear H3
  go_wp2_with fail
  refine (sealed_any _ _ _ _ m H4 hn4 (ht.out.kept b4 ht.out.pos)).mono ?_
  rintro e w6 ⟨a6, n6, c6, rfl, H6, B6, -⟩
  have b6 := b4.trans (B6.mono b4.size)
  go_wp2_with fail
  refine (same_yes _ _ _ _ _ _ _ _ _ H6 (H.kept b6 (Nat.le_refl _)) hm.out.symm).mono ?_
  rintro e w7 ⟨rfl, rfl⟩
  go_wp2
  go_ret
  exact ⟨rfl, b6⟩

theorem sum_of_num (l : List Int) (hb : ∀ x ∈ l, 0 ≤ x ∧ x ≤ 255) (h4 : l.length = 4) : sumBytes (numK l 4) = l := by
  match l, h4 with
  | [a, b, c, d], _ =>
    have h1 := hb a (by simp)
    have h2 := hb b (by simp)
    have h3 := hb c (by simp)
    have h5 := hb d (by simp)
    simp only [sumBytes, byteOf, numK, List.getD_cons_zero, List.getD_cons_succ, Nat.reduceMul, Nat.reducePow, Nat.zero_add, Nat.one_mul]
    simp only [List.cons.injEq, and_true]
    refine ⟨?_, ?_, ?_, ?_⟩ <;> omega

theorem walk (a0 : Option Addr) (len0 cap0 : Nat) (z0 : List Int) (w : World) (ht : Tab w) (w0 : IsRow .u8 w a0 len0 cap0 z0) :
    Calls Tryd.prog 7 #[.slice a0 len0 cap0] w fun e w' => e = .returned (.bool true) ∧ Below w.heap.size w w' := by
  obtain ⟨nb, lb, hnb, H, Sb⟩ := shorten w a0 len0 cap0 z0 w0
  by_cases h4 : nb < 4
  · exact walk_not a0 len0 cap0 nb w ht lb H hnb Sb (fun w1 B1 => open_short w1 _ _ _ lb (H.kept B1 (Nat.le_refl _)) h4)
  · obtain ⟨n, hn⟩ : ∃ n, nb = n + 4 := ⟨nb - 4, by omega⟩
    by_cases he : numK (lb.drop n) 4 = more 0 (lb.take n)
    · refine walk_whole a0 len0 cap0 nb w ht lb (lb.take n) H hnb ?_ Sb (fun w1 B1 => open_any w1 _ _ _ lb (H.kept B1 (Nat.le_refl _)) (by omega) n hn (ht.kept B1 ht.pos) he)
      rw [← he, sum_of_num _ (fun x hx => H.bytes x (List.mem_of_mem_drop hx)) (by have := H.hlen; simp; omega), List.take_append_drop]
    · exact walk_not a0 len0 cap0 nb w ht lb H hnb Sb (fun w1 B1 => open_not w1 _ _ _ lb (H.kept B1 (Nat.le_refl _)) n hn (ht.kept B1 ht.pos) he)

set_option maxRecDepth 100000 in
theorem lifted (os : Os) (started : os.Started) (H : Type) (enc : TypeId × Value → H) :
    ReturnsInHanded {} Tryd.checked os 7 .any (fun w args => (Rows.crcOpensSpec.pre enc Tryd.prog Tryd.f7 [] false w args ∧ laidMetH Tryd.prog laidAll w) ∧ sizedMet enc Tryd.prog Tryd.f7 (OpenSpec.ofChange Rows.crcOpensSpec) false w args) (Rows.crcOpensSpec.post enc Tryd.prog Tryd.f7 false true false false) := by
  refine returnsInHanded_of_change_and (C := Tryd.checked) (X := fun w _ => laidMetH Tryd.prog laidAll w) (fun _ _ _ hh h => h.of_heap hh) own started (by kernel_rfl) Tryd.func7
    (ChangeSpec.witness_shaped (enc := enc) (C := Tryd.checked) (os := os) (X := fun w _ => laidMetH Tryd.prog laidAll w) false (World.doorLaid Tryd.prog 400 os) #[.slice none 0 0] 8 rfl (World.shaped_of_RefB (by kernel_rfl) (by kernel_rfl)) (by kernel_rfl) (by kernel_rfl) (by kernel_rfl) (door_met os _)) ?_
  intro W base args ds gs before hval0 hW _ _ hL _
  have hval : ∀ (j : Nat) t v, Tryd.f7.params[j]? = some t → args[j]? = some v → Value.okWide Tryd.prog W .any base t v := hval0
  have hW' := hW
  obtain ⟨p, q, hA0, hV, rfl, hfz, hnd⟩ := hW
  have hA : DataW.TrodAll enc Tryd.prog W 0 (fun _ => true) true Tryd.f7.params.toList args.toList ds p := hA0
  rw [Tryd.params7] at hA hval
  obtain ⟨v0, vs0, d0, ds0, p0, q0, hargs, rfl, rfl, h0, r0⟩ := trodAll_cons hA
  obtain ⟨rfl, rfl, rfl⟩ := trodAll_nil r0
  obtain rfl : args = #[v0] := by cases args; simp_all
  obtain ⟨rfl, rfl⟩ := trodVars_none hV
  obtain ⟨a0, len0, cap0, rfl⟩ := okWide_slice Tryd.underlying23 (hval 0 23 v0 rfl rfl)
  have k0 := h0
  have lt0 : ∀ x ∈ p0, x.block < W.heap.size := by obtain ⟨m, hm⟩ := k0; exact DataW.trod_lt m _ _ _ hm
  obtain ⟨z0, w0⟩ : ∃ zs, IsRow .u8 W a0 len0 cap0 zs := by
    obtain ⟨fuel, hf⟩ := h0
    rcases open_ints Tryd.underlying23 Tryd.underlying5 (by kernel_rfl) hf with ⟨hcs, _⟩ | ⟨x, l, c, zs, hcs, _, hl, hm, hz, _, hcell, hwz⟩
    · simp [Value.cells] at hcs
      obtain ⟨rfl, rfl, rfl⟩ := hcs
      exact ⟨[], .inl ⟨rfl, rfl, rfl, rfl⟩⟩
    · simp [Value.cells] at hcs
      obtain ⟨rfl, rfl, rfl⟩ := hcs
      exact ⟨zs, .inr ⟨_, rfl, hl, hm, by simpa using hz, hcell, hwz⟩⟩
  clear hA0 hval0
  have ht := facts_of_laid hL
  refine (walk a0 len0 cap0 z0 W ht w0).mono fun e W' ⟨he, bel⟩ => ?_
  subst he
  exact ⟨_, rfl, _, _, _, [], _, [], hW', trodAll_mk1 (shut_bool Tryd.underlying4 _), (trodAll_cons_mk (Below.trod laidOut (by kernel_rfl) (of_decide_eq_true (by kernel_rfl)) k0 bel lt0) trodAll_mk0), rfl, bel.frame _, fun h => by cases h⟩

theorem over : Rows.crcOpensRow.holds Tryd.pinned (OpenSpec.ofChange Rows.crcOpensSpec) :=
  OpenClaim.holds_of_wide 7 Tryd.f7 rfl rfl rfl rfl rfl rfl rfl ⟨rfl, rfl, rfl, rfl, rfl⟩ rfl rfl rfl rfl rfl (by kernel_rfl) Tryd.func7 (by kernel_rfl)
    (of_decide_eq_true (by kernel_rfl)) (by unfold Func.isWrapper; first | (rw [if_pos (by decide +kernel)]; kernel_rfl) | (rw [if_neg (by decide +kernel)]; exact ⟨rfl, rfl⟩))
    (fun os started H enc _ => lifted os started H enc)

/-- The statement: the tied card. -/
theorem proved : Rows.CrcOpensCardSaid :=
  Claim7.holds_tied_plain_at .later [] [.data] true _ false
    over (fun _ h => by cases h) (by kernel_rfl) (fun _ h => by cases h) crcOpens_row_tie rfl ⟨rfl, rfl⟩ (by kernel_rfl) rfl
    (fun f fn hf hfn => by
      obtain rfl : f = 7 := Option.some.inj ((show Tryd.prog.funcNamed "tidepole/tidepolelaw02.CrcOpens" = some 7 by kernel_rfl).symm.trans hf) |>.symm
      obtain rfl : fn = Tryd.f7 := (Option.some.inj (Tryd.func7.symm.trans hfn)).symm
      exact ⟨by kernel_rfl, fun j t ht => by
        rw [Tryd.params7] at ht
        have hm : t ∈ [23] := by have := Array.mem_of_getElem? ht; simp at this ⊢; omega
        have hall : ([23].all fun u => !Tryd.prog.wantsStandIn u) = true := by kernel_rfl
        exact (show Tryd.prog.wantsStandIn t = false by simpa using List.all_eq_true.1 hall t hm)⟩)
    (by kernel_rfl)
#print axioms proved
end Go.Proofs.YtmfllalmnhkakaaDoor.crcOpens
