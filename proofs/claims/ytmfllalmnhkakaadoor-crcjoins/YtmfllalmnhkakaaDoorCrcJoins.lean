/-
  Proved: CrcJoins answers true for all inputs, with the package's listed variable as the program's own text lays it (the tied card). No other condition.
  The shell was written by the kit's program and turned by our own; the walk is ours.
-/
import Derived.Test.YtmfllalmnhkakaaDoorRows
import Derived.Test.YtmfllalmnhkakaaDoorTie
import Derived.Test.YtmfllalmnhkakaaDoorCards
import Derived.Test.YtmfllalmnhkakaaDoorI
import Derived.Test.YtmfllalmnhkakaaDoorJ
import Derived.Test.YtmfllalmnhkakaaDoorO
import Derived.ShutString
import Derived.ChangeOld
import Derived.SevenTiedAt
namespace Go.Proofs.YtmfllalmnhkakaaDoor.crcJoins
open Go.ChangeShapes Go.WideShapes Go.ChangeAt Go.RowKit
open Go.ChangeMaps (open_string shut_string)
set_option linter.unusedVariables false

theorem join_both (x y : Nat) (n : Int) (hx : x < 4294967296) (hy : y < 4294967296) (hn : -9223372036854775808 ≤ n ∧ n ≤ 9223372036854775807) : ∃ p e : Int,
    (∀ w, Calls Tryd.prog 24 #[.int .u32 (x : Int), .int .u32 (y : Int), .int .i64 n] w fun en w' => en = .returned (.tuple #[.int .u32 p, .int .i64 e]) ∧ w' = w) ∧
    (∀ w, Calls Tryd.prog 25 #[.int .u32 (x : Int), .int .u32 (y : Int), .int .i64 n] w fun en w' => en = .returned (.tuple #[.int .u32 p, .int .i64 e]) ∧ Below w.heap.size w w') := by
  by_cases h : n < 0
  · exact ⟨0, 2, fun w => join_neg _ _ n h w, fun w => (rjoin_neg _ _ n h w).mono fun en w' ⟨h1, h2⟩ => ⟨h1, by rw [h2]; exact Below.refl _ _⟩⟩
  · obtain ⟨m, rfl⟩ : ∃ m : Nat, n = m := ⟨n.toNat, by omega⟩
    exact ⟨_, 0, fun w => join_any x y m hx hy (by omega) w, fun w => rjoin_any x y m hx hy (by omega) w⟩

set_option maxHeartbeats 2000000 in
theorem walk1 (x y : Nat) (n p er : Int) (a0 a1 : Option Addr) (len0 cap0 na len1 cap1 nb : Nat) (w : World) (ht : Tab w) (la lb : List Int) (Ha : Has w a0 na cap0 la) (hna : na ≤ 300) (Hb : Has w a1 nb cap1 lb) (hnb : nb ≤ 300)
    (Sa : Hid (∀ w1, Below w.heap.size w w1 → Calls Tryd.prog 8 #[.slice a0 len0 cap0] w1 fun e w' => e = .returned (.slice a0 na cap0) ∧ w' = w1))
    (Sb : Hid (∀ w1, Below w.heap.size w w1 → Calls Tryd.prog 8 #[.slice a1 len1 cap1] w1 fun e w' => e = .returned (.slice a1 nb cap1) ∧ w' = w1))
    (J1 : Hid (∀ w, Calls Tryd.prog 24 #[.int .u32 (x : Int), .int .u32 (y : Int), .int .i64 n] w fun en w' => en = .returned (.tuple #[.int .u32 p, .int .i64 er]) ∧ w' = w))
    (J2 : Hid (∀ w, Calls Tryd.prog 25 #[.int .u32 (x : Int), .int .u32 (y : Int), .int .i64 n] w fun en w' => en = .returned (.tuple #[.int .u32 p, .int .i64 er]) ∧ Below w.heap.size w w')) :
    Calls Tryd.prog 5 #[.slice a0 len0 cap0, .slice a1 len1 cap1, .int .u32 (x : Int), .int .u32 (y : Int), .int .i64 n] w fun e w' => e = .returned (.bool true) ∧ Below w.heap.size w w' := by
  replace ht := hide ht
  have hb := hide (app_bytes Ha.bytes Hb.bytes)
  have sa : more 0 la < 4294967296 := more_lt (by decide) Ha.bytes
  have sb : more 0 lb < 4294967296 := more_lt (by decide) Hb.bytes
  have hj := hide (more_joined la lb)
  have hm := hide (more_append 0 la lb)
  have hlb := hide Hb.hlen
  have hJ : Hid (∀ w, Calls Tryd.prog 24 #[.int .u32 ((more 0 la : Nat) : Int), .int .u32 ((more 0 lb : Nat) : Int), .int .i64 (nb : Int)] w fun en w' => en = .returned (.tuple #[.int .u32 ((more 0 (la ++ lb) : Nat) : Int), .int .i64 0]) ∧ w' = w) := fun w => by
    have := join_any (more 0 la) (more 0 lb) nb sa sb (by omega) w
    rwa [← hlb.out, hj.out, hlb.out] at this
  have hM : Hid (∀ w1, Below w.heap.size w w1 → Calls Tryd.prog 12 #[.int .u32 ((more 0 la : Nat) : Int), .slice a1 nb cap1] w1 fun e w' => e = .returned (.int .u32 ((more 0 (la ++ lb) : Nat) : Int)) ∧ Below w1.heap.size w1 w') := fun w1 B1 => by
    have := more_any (more 0 la) sa a1 nb cap1 lb w1 (Hb.kept B1 (Nat.le_refl _)) (ht.out.kept B1 ht.out.pos)
    rwa [hm.out] at this
  clear hj hm sa sb
  go_enter Tryd.func5, Tryd.ntmps5
  go_wp2_with fail
  refine (J1.out _).mono ?_
  rintro e w1 ⟨rfl, rfl⟩
  go_wp2_with fail
  refine (J2.out _).mono ?_
  rintro e w2 ⟨rfl, b2⟩
  go_wp2_with fail
  refine (Sa.out _ b2).mono ?_
  rintro e w3 ⟨rfl, rfl⟩
  go_wp2_with fail
  refine (Sb.out _ b2).mono ?_
  rintro e w4 ⟨rfl, rfl⟩
  clear Sa Sb J1 J2
  go_wp2_with fail
  refine (bytes_any _ _ _ _ la (Ha.kept b2 (Nat.le_refl _)) (by omega)).mono ?_
  rintro e w5 ⟨a5, n5, c5, rfl, H5, B5, O5⟩
  have b5 := b2.trans (B5.mono b2.size)
  have h5 : n5 ≤ 300 := by have h1 := H5.hlen; have h2 := Ha.hlen; omega
  go_wp2_with (at_builtin; refine wpList_app rfl (.tmp 45) (.tmp 46) rfl w4.heap.size _ n5 la rfl O5 a1 nb cap1 lb rfl (Hb.kept b5 (Nat.le_refl _)) (by omega) B5.size ?_; intro v6 w6 O6 G6)
  obtain ⟨a6, c6, e6, H6⟩ := has_of_owns (l := la ++ lb) (n := n5 + nb) O6 hb.out
  subst e6
  have B6 := B5.grown G6 B5.size (fun k hk => (O5.lt k hk).1)
  have b6 := b2.trans (B6.mono b2.size)
  clear O5 O6 G6 H5
  refine (sum_any _ _ _ _ _ H6 (ht.out.kept b6 ht.out.pos)).mono ?_
  rintro e w7 ⟨rfl, B7⟩
  have b7 := b6.trans (B7.mono b6.size)
  clear H6
  go_wp2_with fail
  refine (sum_any _ _ _ la _ (Ha.kept b7 (Nat.le_refl _)) (ht.out.kept b7 ht.out.pos)).mono ?_
  rintro e w8 ⟨rfl, B8⟩
  have b8 := b7.trans (B8.mono b7.size)
  go_wp2_with fail
  refine (sum_any _ _ _ lb _ (Hb.kept b8 (Nat.le_refl _)) (ht.out.kept b8 ht.out.pos)).mono ?_
  rintro e w9 ⟨rfl, B9⟩
  have b9 := b8.trans (B9.mono b8.size)
  go_wp2_with fail
  refine (hJ.out _).mono ?_
  rintro e w10 ⟨rfl, rfl⟩
  go_wp2_with fail
  refine (sum_any _ _ _ la _ (Ha.kept b9 (Nat.le_refl _)) (ht.out.kept b9 ht.out.pos)).mono ?_
  rintro e w11 ⟨rfl, B11⟩
  have b11 := b9.trans (B11.mono b9.size)
  go_wp2_with fail
  refine (hM.out _ b11).mono ?_
  rintro e w12 ⟨rfl, B12⟩
  have b12 := b11.trans (B12.mono b11.size)
  go_wp2_with fail
  refine (works_any _ (ht.out.kept b12 ht.out.pos)).mono ?_
  rintro e w13 ⟨rfl, B13⟩
  go_wp2
  go_ret
  exact ⟨rfl, b12.trans (B13.mono b12.size)⟩

theorem walk (a0 : Option Addr) (len0 cap0 : Nat) (z0 : List Int) (a1 : Option Addr) (len1 cap1 : Nat) (z1 : List Int) (a2 : Int) (a3 : Int) (a4 : Int) (w : World) (ht : Tab w) (w0 : IsRow .u8 w a0 len0 cap0 z0) (w1 : IsRow .u8 w a1 len1 cap1 z1) (w2 : (Lit.int .u32 a2).wf = true) (w3 : (Lit.int .u32 a3).wf = true) (w4 : (Lit.int .i64 a4).wf = true) :
    Calls Tryd.prog 5 #[.slice a0 len0 cap0, .slice a1 len1 cap1, .int .u32 a2, .int .u32 a3, .int .i64 a4] w fun e w' => e = .returned (.bool true) ∧ Below w.heap.size w w' := by
  have h2 := wf_u32 w2
  have h3 := wf_u32 w3
  have h4 := wf_i64 w4
  obtain ⟨na, la, hna, Ha, Sa⟩ := shorten w a0 len0 cap0 z0 w0
  obtain ⟨nb, lb, hnb, Hb, Sb⟩ := shorten w a1 len1 cap1 z1 w1
  obtain ⟨x, rfl⟩ : ∃ x : Nat, a2 = x := ⟨a2.toNat, by omega⟩
  obtain ⟨y, rfl⟩ : ∃ y : Nat, a3 = y := ⟨a3.toNat, by omega⟩
  obtain ⟨p, er, J1, J2⟩ := join_both x y a4 (by omega) (by omega) h4
  exact walk1 x y a4 p er a0 a1 len0 cap0 na len1 cap1 nb w ht la lb Ha hna Hb hnb Sa Sb J1 J2

set_option maxRecDepth 100000 in
theorem lifted (os : Os) (started : os.Started) (H : Type) (enc : TypeId × Value → H) :
    ReturnsInHanded {} Tryd.checked os 5 .any (fun w args => (Rows.crcJoinsSpec.pre enc Tryd.prog Tryd.f5 [] false w args ∧ laidMetH Tryd.prog laidAll w) ∧ sizedMet enc Tryd.prog Tryd.f5 (OpenSpec.ofChange Rows.crcJoinsSpec) false w args) (Rows.crcJoinsSpec.post enc Tryd.prog Tryd.f5 false true false false) := by
  refine returnsInHanded_of_change_and (C := Tryd.checked) (X := fun w _ => laidMetH Tryd.prog laidAll w) (fun _ _ _ hh h => h.of_heap hh) own started (by kernel_rfl) Tryd.func5
    (ChangeSpec.witness_shaped (enc := enc) (C := Tryd.checked) (os := os) (X := fun w _ => laidMetH Tryd.prog laidAll w) false (World.doorLaid Tryd.prog 400 os) #[.slice none 0 0, .slice none 0 0, .int .u32 0, .int .u32 0, .int .i64 0] 8 rfl (World.shaped_of_RefB (by kernel_rfl) (by kernel_rfl)) (by kernel_rfl) (by kernel_rfl) (by kernel_rfl) (door_met os _)) ?_
  intro W base args ds gs before hval0 hW _ _ hL _
  have hval : ∀ (j : Nat) t v, Tryd.f5.params[j]? = some t → args[j]? = some v → Value.okWide Tryd.prog W .any base t v := hval0
  have hW' := hW
  obtain ⟨p, q, hA0, hV, rfl, hfz, hnd⟩ := hW
  have hA : DataW.TrodAll enc Tryd.prog W 0 (fun _ => true) true Tryd.f5.params.toList args.toList ds p := hA0
  rw [Tryd.params5] at hA hval
  obtain ⟨v0, vs0, d0, ds0, p0, q0, hargs, rfl, rfl, h0, r0⟩ := trodAll_cons hA
  obtain ⟨v1, vs1, d1, ds1, p1, q1, rfl, rfl, rfl, h1, r1⟩ := trodAll_cons r0
  obtain ⟨v2, vs2, d2, ds2, p2, q2, rfl, rfl, rfl, h2, r2⟩ := trodAll_cons r1
  obtain ⟨v3, vs3, d3, ds3, p3, q3, rfl, rfl, rfl, h3, r3⟩ := trodAll_cons r2
  obtain ⟨v4, vs4, d4, ds4, p4, q4, rfl, rfl, rfl, h4, r4⟩ := trodAll_cons r3
  obtain ⟨rfl, rfl, rfl⟩ := trodAll_nil r4
  obtain rfl : args = #[v0, v1, v2, v3, v4] := by cases args; simp_all
  obtain ⟨rfl, rfl⟩ := trodVars_none hV
  obtain ⟨a0, len0, cap0, rfl⟩ := okWide_slice Tryd.underlying23 (hval 0 23 v0 rfl rfl)
  have k0 := h0
  have lt0 : ∀ x ∈ p0, x.block < W.heap.size := by obtain ⟨m, hm⟩ := k0; exact DataW.trod_lt m _ _ _ hm
  obtain ⟨z0, w0⟩ : ∃ zs, IsRow .u8 W a0 len0 cap0 zs := by
    obtain ⟨fuel, hf⟩ := h0
    rcases open_ints Tryd.underlying23 Tryd.underlying5 (by kernel_rfl) hf with ⟨hcs, _⟩ | ⟨x, l, c, zs, hcs, _, hl, hm, hz, _, hcell, hwz⟩
    · simp [Value.cells] at hcs
      obtain ⟨rfl, rfl, rfl⟩ := hcs
      exact ⟨[], .inl ⟨rfl, rfl, rfl, rfl⟩⟩
    · simp [Value.cells] at hcs
      obtain ⟨rfl, rfl, rfl⟩ := hcs
      exact ⟨zs, .inr ⟨_, rfl, hl, hm, by simpa using hz, hcell, hwz⟩⟩
  obtain ⟨a1, len1, cap1, rfl⟩ := okWide_slice Tryd.underlying23 (hval 1 23 v1 rfl rfl)
  have k1 := h1
  have lt1 : ∀ x ∈ p1, x.block < W.heap.size := by obtain ⟨m, hm⟩ := k1; exact DataW.trod_lt m _ _ _ hm
  obtain ⟨z1, w1⟩ : ∃ zs, IsRow .u8 W a1 len1 cap1 zs := by
    obtain ⟨fuel, hf⟩ := h1
    rcases open_ints Tryd.underlying23 Tryd.underlying5 (by kernel_rfl) hf with ⟨hcs, _⟩ | ⟨x, l, c, zs, hcs, _, hl, hm, hz, _, hcell, hwz⟩
    · simp [Value.cells] at hcs
      obtain ⟨rfl, rfl, rfl⟩ := hcs
      exact ⟨[], .inl ⟨rfl, rfl, rfl, rfl⟩⟩
    · simp [Value.cells] at hcs
      obtain ⟨rfl, rfl, rfl⟩ := hcs
      exact ⟨zs, .inr ⟨_, rfl, hl, hm, by simpa using hz, hcell, hwz⟩⟩
  obtain ⟨a2, rfl, rfl, rfl, w2⟩ := open_int Tryd.underlying22 (hval 2 22 v2 rfl rfl) h2
  obtain ⟨a3, rfl, rfl, rfl, w3⟩ := open_int Tryd.underlying22 (hval 3 22 v3 rfl rfl) h3
  obtain ⟨a4, rfl, rfl, rfl, w4⟩ := open_int Tryd.underlying3 (hval 4 3 v4 rfl rfl) h4
  clear hA0 hval0
  have ht := facts_of_laid hL
  refine (walk a0 len0 cap0 z0 a1 len1 cap1 z1 a2 a3 a4 W ht w0 w1 w2 w3 w4).mono fun e W' ⟨he, bel⟩ => ?_
  subst he
  exact ⟨_, rfl, _, _, _, [], _, [], hW', trodAll_mk1 (shut_bool Tryd.underlying4 _), (trodAll_cons_mk (Below.trod laidOut (by kernel_rfl) (of_decide_eq_true (by kernel_rfl)) k0 bel lt0) (trodAll_cons_mk (Below.trod laidOut (by kernel_rfl) (of_decide_eq_true (by kernel_rfl)) k1 bel lt1) (trodAll_cons_mk (shut_int Tryd.underlying22 w2) (trodAll_cons_mk (shut_int Tryd.underlying22 w3) (trodAll_cons_mk (shut_int Tryd.underlying3 w4) trodAll_mk0))))), rfl, bel.frame _, fun h => by cases h⟩

theorem over : Rows.crcJoinsRow.holds Tryd.pinned (OpenSpec.ofChange Rows.crcJoinsSpec) :=
  OpenClaim.holds_of_wide 5 Tryd.f5 rfl rfl rfl rfl rfl rfl rfl ⟨rfl, rfl, rfl, rfl, rfl⟩ rfl rfl rfl rfl rfl (by kernel_rfl) Tryd.func5 (by kernel_rfl)
    (of_decide_eq_true (by kernel_rfl)) (by unfold Func.isWrapper; first | (rw [if_pos (by decide +kernel)]; kernel_rfl) | (rw [if_neg (by decide +kernel)]; exact ⟨rfl, rfl⟩))
    (fun os started H enc _ => lifted os started H enc)

/-- The statement: the tied card. -/
theorem proved : Rows.CrcJoinsCardSaid :=
  Claim7.holds_tied_plain_at .later [] [.data] true _ false
    over (fun _ h => by cases h) (by kernel_rfl) (fun _ h => by cases h) crcJoins_row_tie rfl ⟨rfl, rfl⟩ (by kernel_rfl) rfl
    (fun f fn hf hfn => by
      obtain rfl : f = 5 := Option.some.inj ((show Tryd.prog.funcNamed "tidepole/tidepolelaw02.CrcJoins" = some 5 by kernel_rfl).symm.trans hf) |>.symm
      obtain rfl : fn = Tryd.f5 := (Option.some.inj (Tryd.func5.symm.trans hfn)).symm
      exact ⟨by kernel_rfl, fun j t ht => by
        rw [Tryd.params5] at ht
        have hm : t ∈ [23, 23, 22, 22, 3] := by simpa using Array.mem_of_getElem? ht
        have hall : ([23, 23, 22, 22, 3].all fun u => !Tryd.prog.wantsStandIn u) = true := by kernel_rfl
        exact (show Tryd.prog.wantsStandIn t = false by simpa using List.all_eq_true.1 hall t hm)⟩)
    (by kernel_rfl)
#print axioms proved
end Go.Proofs.YtmfllalmnhkakaaDoor.crcJoins
