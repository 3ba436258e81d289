/-
  Proved: CrcFinds answers true for all inputs, with the package's listed variable as the program's own text lays it (the tied card). No other condition.
  The shell was written by the kit's program and turned by our own; the walk is ours.
-/
import Derived.Test.YtmfllalmnhkakaaDoorRows
import Derived.Test.YtmfllalmnhkakaaDoorTie
import Derived.Test.YtmfllalmnhkakaaDoorCards
import Derived.Test.YtmfllalmnhkakaaDoorI
import Derived.Test.YtmfllalmnhkakaaDoorJ
import Derived.Test.YtmfllalmnhkakaaDoorK
import Derived.ShutString
import Derived.ChangeOld
import Derived.SevenTiedAt
namespace Go.Proofs.YtmfllalmnhkakaaDoor.crcFinds
open Go.ChangeShapes Go.WideShapes Go.ChangeAt Go.RowKit
open Go.ChangeMaps (open_string shut_string)
set_option linter.unusedVariables false

set_option maxHeartbeats 1000000 in
/-- Too few bytes, or no bit. -/
theorem walk_few (a0 : Option Addr) (len0 cap0 nb : Nat) (at' bt : Int) (w : World) (ht : Tab w) (lb : List Int) (H : Has w a0 nb cap0 lb) (hnb : nb ≤ 300) (hf : nb < 5)
    (Sb : Hid (∀ w1, Below w.heap.size w w1 → Calls Tryd.prog 8 #[.slice a0 len0 cap0] w1 fun e w' => e = .returned (.slice a0 nb cap0) ∧ w' = w1)) :
    Calls Tryd.prog 6 #[.slice a0 len0 cap0, .int .i64 at', .int .u32 bt] w fun e w' => e = .returned (.bool true) ∧ Below w.heap.size w w' := by
  have ht := hide ht
  have hf' : decide ((nb : Int) < 5) = true := by simp; omega
  have hf'' : decide (nb < 5) = true := by simp; omega
  go_enter Tryd.func6, Tryd.ntmps6
  go_wp2_with fail
  refine (works_any _ ht.out).mono ?_
  rintro e w1 ⟨rfl, B1⟩
  go_wp2_with fail
  refine (Sb.out _ B1).mono ?_
  rintro e w1 ⟨rfl, rfl⟩
  go_wp2
  go_ret
  exact ⟨rfl, B1⟩

set_option maxHeartbeats 1000000 in
theorem walk_none (a0 : Option Addr) (len0 cap0 nb : Nat) (at' : Int) (w : World) (ht : Tab w) (lb : List Int) (H : Has w a0 nb cap0 lb) (hnb : nb ≤ 300) (hf : 5 ≤ nb)
    (Sb : Hid (∀ w1, Below w.heap.size w w1 → Calls Tryd.prog 8 #[.slice a0 len0 cap0] w1 fun e w' => e = .returned (.slice a0 nb cap0) ∧ w' = w1)) :
    Calls Tryd.prog 6 #[.slice a0 len0 cap0, .int .i64 at', .int .u32 0] w fun e w' => e = .returned (.bool true) ∧ Below w.heap.size w w' := by
  have ht := hide ht
  have hf' : decide ((nb : Int) < 5) = false := by simp; omega
  have hf'' : decide (nb < 5) = false := by simp; omega
  go_enter Tryd.func6, Tryd.ntmps6
  go_wp2_with fail
  refine (works_any _ ht.out).mono ?_
  rintro e w1 ⟨rfl, B1⟩
  go_wp2_with fail
  refine (Sb.out _ B1).mono ?_
  rintro e w1 ⟨rfl, rfl⟩
  go_wp2
  go_ret
  exact ⟨rfl, B1⟩

theorem pow_byte {s : Nat} (h : s < 8) : (2 : Int) ^ s % 256 = ((2 ^ s : Nat) : Int) := by
  have h1 : (2 : Nat) ^ s < 2 ^ 8 := Nat.pow_lt_pow_right (by decide) h
  rw [show (2 : Int) ^ s = ((2 ^ s : Nat) : Int) by simp]
  generalize (2 : Nat) ^ s = v at h1 ⊢
  omega

set_option maxHeartbeats 4000000 in
theorem walk_turn (a0 : Option Addr) (len0 cap0 nb : Nat) (at' : Int) (bt : Nat) (hat : -9223372036854775808 ≤ at' ∧ at' ≤ 9223372036854775807) (hbt : bt < 4294967296) (hb0 : bt ≠ 0) (w : World) (ht : Tab w) (lb : List Int) (H : Has w a0 nb cap0 lb) (hnb : nb ≤ 300) (hf : 5 ≤ nb)
    (Sb : Hid (∀ w1, Below w.heap.size w w1 → Calls Tryd.prog 8 #[.slice a0 len0 cap0] w1 fun e w' => e = .returned (.slice a0 nb cap0) ∧ w' = w1)) :
    Calls Tryd.prog 6 #[.slice a0 len0 cap0, .int .i64 at', .int .u32 (bt : Int)] w fun e w' => e = .returned (.bool true) ∧ Below w.heap.size w w' := by
  have ht := hide ht
  have hat := hide hat
  have H := hide H
  have hlen := hide H.out.hlen
  have hf1 : (5 : Int) ≤ (nb : Int) := by omega
  have hf2 : (nb : Int) ≤ 300 := by omega
  have hf' : decide ((nb : Int) < 5) = false := by simp; omega
  have hf'' : decide (nb < 5) = false := by simp; omega
  have hz : ((bt : Int) == 0) = false := by rw [beq_eq_false_iff_ne]; omega
  go_enter Tryd.func6, Tryd.ntmps6
  go_wp2_with fail
  refine (works_any _ ht.out).mono ?_
  rintro e w1 ⟨rfl, B1⟩
  go_wp2_with fail
  refine (Sb.out _ B1).mono ?_
  rintro e w1 ⟨rfl, rfl⟩
  go_wp2_with fail
  refine (bytes_any _ _ _ _ lb (H.out.kept B1 (Nat.le_refl _)) (by omega)).mono ?_
  rintro e w2 ⟨a2, n2, c2, rfl, H2, B2, O2⟩
  obtain rfl : nb = n2 := by have := H2.hlen; have := hlen.out; omega
  obtain ⟨g, c2', e2, hg, hc1, hc2, hrow⟩ := rowB_of_owns O2 (by omega)
  cases e2
  have b2 := hide (B1.trans (B2.mono B1.size))
  have hgB : w.heap.size ≤ g := Nat.le_trans B1.size hg
  have hrow := hide hrow
  clear O2 H2 B2 B1 Sb
  go_wp2_with fail
  have ham := among_any at' (8 * (nb - 4)) hat.out (by omega) (by omega) w2
  rw [show ((8 * (nb - 4) : Nat) : Int) = 8 * ((nb : Int) - 4) by omega] at ham
  refine ham.mono ?_
  rintro e w3 ⟨p, rfl, hp, rfl⟩
  clear ham
  have hp2 : p + 32 ≤ 8 * nb := by omega
  have hst : Hid (Turned lb lb p bt 0) := turned_start H.out.bytes p bt
  go_wp2_with fail
  go_loopw [2, 8] (fun b i wr => ∃ (k y : Nat) (l : List Int), k ≤ 32 ∧ i = .int .i64 k ∧ b = .int .u32 (y : Int) ∧ y < 4294967296 ∧ Hid (y = bt / 2 ^ k) ∧ Hid (Below w.heap.size w wr) ∧ Hid (RowB wr g nb l) ∧ Hid (Turned lb l p bt k)) (fun _ i _ => 32 - (intOf i).toNat)
  case atStart => exact ⟨0, bt, lb, by omega, rfl, rfl, hbt, by show bt = bt / 2 ^ 0; simp, b2, hrow, hst⟩
  case round =>
    clear hrow b2 hst
    obtain ⟨k, y, l, hk, rfl, rfl, hy, hyk, hB, hR, hT⟩ := hrel
    by_cases hk32 : k < 32
    · have hk2 : (k : Int) < 32 := by omega
      obtain ⟨q, s, hq, hs, hq2, hs2⟩ : ∃ q s : Nat, (p + k) / 8 = q ∧ (p + k) % 8 = s ∧ q < nb ∧ s < 8 := ⟨_, _, rfl, rfl, by omega, by omega⟩
      have e1 : ((p : Int) + (k : Int)) / 8 = (q : Int) := by omega
      have e2 : ((p : Int) + (k : Int)) % 8 = (s : Int) := by omega
      have hbound : (p : Int) + (k : Int) ≤ 3000 := by omega
      have hc := hR.out.at q hq2
      have hfz := hR.out.frozen q
      have hby := getD_byte hT.out.2.1 q (by rw [hT.out.1, hlen.out]; exact hq2)
      have hx : bits .xor .u8 (l.getD q 0) ((2 : Int) ^ s % 256) = (((l.getD q 0).toNat ^^^ 2 ^ s : Nat) : Int) := by
        rw [pow_byte hs2]; exact xor_bit hby hs2
      have hset : Hid (∀ wr', RowB wr' g nb l → RowB (wr'.setCell ⟨g, q, none⟩ (.int .u8 (((l.getD q 0).toNat ^^^ 2 ^ s : Nat) : Int))) g nb (l.set q (((l.getD q 0).toNat ^^^ 2 ^ s : Nat) : Int))) := fun wr' h => h.set q _
      have hyes : Hid (bt / 2 ^ k % 2 = 1 → Turned lb (l.set q (((l.getD q 0).toNat ^^^ 2 ^ s : Nat) : Int)) p bt (k + 1)) := fun hb => by
        have := hT.out.yes hk32 (by rw [hlen.out]; exact hp2) hb
        rwa [hq, hs] at this
      have hno : Hid (bt / 2 ^ k % 2 = 0 → Turned lb l p bt (k + 1)) := fun hb => hT.out.no hk32 (by rw [hlen.out]; exact hp2) hb
      have hy2 : Hid (y / 2 = bt / 2 ^ (k + 1)) := by
        show y / 2 = bt / 2 ^ (k + 1)
        rw [hyk.out, Nat.div_div_eq_div_mul, Nat.pow_succ]
      clear hq hs hT
      generalize (l.getD q 0).toNat ^^^ 2 ^ s = z at hx hset hyes
      generalize l.getD q 0 = c at hc hby hx
      go_wp2_with fail
      · have h1 : ((y : Int) % 2 == 1) = true := by assumption
        have h1' : bt / 2 ^ k % 2 = 1 := by rw [← hyk.out]; have := beq_iff_eq.1 h1; omega
        go_roundw
        case rel => exact ⟨k + 1, y / 2, _, by omega, by go_num, v32 (by omega), by omega, hy2, hB.out.setCell (p := ⟨g, q, none⟩) hgB _, hset.out wr hR.out, hyes.out h1'⟩
        case measure => simp [intOf]; omega
      · have h1 : ((y : Int) % 2 == 1) = false := by assumption
        have h1' : bt / 2 ^ k % 2 = 0 := by rw [← hyk.out]; have := beq_eq_false_iff_ne.1 h1; omega
        go_roundw
        case rel => exact ⟨k + 1, y / 2, l, by omega, by go_num, v32 (by omega), by omega, hy2, hB, hR, hno.out h1'⟩
        case measure => simp [intOf]; omega
    · obtain rfl : k = 32 := by omega
      have htw := hide (ht.out.kept hB.out ht.out.pos)
      have hS1 := hide (sum_any _ nb c2 l wr (hR.out.has hc1 hc2 hT.out.2.1) htw.out)
      have hne := hide (turned_end hT.out hbt hb0)
      have q : (((more 0 l : Nat) : Int) != ((more 0 lb : Nat) : Int)) = true := by rw [bne_iff_ne]; have := hne.out; omega
      go_wp2_with fail
      refine hS1.out.mono ?_
      rintro e w4 ⟨rfl, B4⟩
      have b4 := hB.out.trans (B4.mono hB.out.size)
      go_wp2_with fail
      refine (sum_any _ _ _ lb _ (H.out.kept b4 (Nat.le_refl _)) (ht.out.kept b4 ht.out.pos)).mono ?_
      rintro e w5 ⟨rfl, B5⟩
      go_wp2
      go_ret
      exact ⟨rfl, b4.trans (B5.mono b4.size)⟩

theorem walk (a0 : Option Addr) (len0 cap0 : Nat) (z0 : List Int) (a1 : Int) (a2 : Int) (w : World) (ht : Tab w) (w0 : IsRow .u8 w a0 len0 cap0 z0) (w1 : (Lit.int .i64 a1).wf = true) (w2 : (Lit.int .u32 a2).wf = true) :
    Calls Tryd.prog 6 #[.slice a0 len0 cap0, .int .i64 a1, .int .u32 a2] w fun e w' => e = .returned (.bool true) ∧ Below w.heap.size w w' := by
  have h2 := wf_u32 w2
  have h1 := wf_i64 w1
  obtain ⟨nb, lb, hnb, H, Sb⟩ := shorten w a0 len0 cap0 z0 w0
  obtain ⟨s, rfl⟩ : ∃ s : Nat, a2 = s := ⟨a2.toNat, by omega⟩
  by_cases hf : nb < 5
  · exact walk_few a0 len0 cap0 nb a1 _ w ht lb H hnb hf Sb
  · by_cases hs : s = 0
    · subst hs; exact walk_none a0 len0 cap0 nb a1 w ht lb H hnb (by omega) Sb
    · exact walk_turn a0 len0 cap0 nb a1 s h1 (by omega) hs w ht lb H hnb (by omega) Sb

set_option maxRecDepth 100000 in
theorem lifted (os : Os) (started : os.Started) (H : Type) (enc : TypeId × Value → H) :
    ReturnsInHanded {} Tryd.checked os 6 .any (fun w args => (Rows.crcFindsSpec.pre enc Tryd.prog Tryd.f6 [] false w args ∧ laidMetH Tryd.prog laidAll w) ∧ sizedMet enc Tryd.prog Tryd.f6 (OpenSpec.ofChange Rows.crcFindsSpec) false w args) (Rows.crcFindsSpec.post enc Tryd.prog Tryd.f6 false true false false) := by
  refine returnsInHanded_of_change_and (C := Tryd.checked) (X := fun w _ => laidMetH Tryd.prog laidAll w) (fun _ _ _ hh h => h.of_heap hh) own started (by kernel_rfl) Tryd.func6
    (ChangeSpec.witness_shaped (enc := enc) (C := Tryd.checked) (os := os) (X := fun w _ => laidMetH Tryd.prog laidAll w) false (World.doorLaid Tryd.prog 400 os) #[.slice none 0 0, .int .i64 0, .int .u32 0] 8 rfl (World.shaped_of_RefB (by kernel_rfl) (by kernel_rfl)) (by kernel_rfl) (by kernel_rfl) (by kernel_rfl) (door_met os _)) ?_
  intro W base args ds gs before hval0 hW _ _ hL _
  have hval : ∀ (j : Nat) t v, Tryd.f6.params[j]? = some t → args[j]? = some v → Value.okWide Tryd.prog W .any base t v := hval0
  have hW' := hW
  obtain ⟨p, q, hA0, hV, rfl, hfz, hnd⟩ := hW
  have hA : DataW.TrodAll enc Tryd.prog W 0 (fun _ => true) true Tryd.f6.params.toList args.toList ds p := hA0
  rw [Tryd.params6] at hA hval
  obtain ⟨v0, vs0, d0, ds0, p0, q0, hargs, rfl, rfl, h0, r0⟩ := trodAll_cons hA
  obtain ⟨v1, vs1, d1, ds1, p1, q1, rfl, rfl, rfl, h1, r1⟩ := trodAll_cons r0
  obtain ⟨v2, vs2, d2, ds2, p2, q2, rfl, rfl, rfl, h2, r2⟩ := trodAll_cons r1
  obtain ⟨rfl, rfl, rfl⟩ := trodAll_nil r2
  obtain rfl : args = #[v0, v1, v2] := by cases args; simp_all
  obtain ⟨rfl, rfl⟩ := trodVars_none hV
  obtain ⟨a0, len0, cap0, rfl⟩ := okWide_slice Tryd.underlying23 (hval 0 23 v0 rfl rfl)
  have k0 := h0
  have lt0 : ∀ x ∈ p0, x.block < W.heap.size := by obtain ⟨m, hm⟩ := k0; exact DataW.trod_lt m _ _ _ hm
  obtain ⟨z0, w0⟩ : ∃ zs, IsRow .u8 W a0 len0 cap0 zs := by
    obtain ⟨fuel, hf⟩ := h0
    rcases open_ints Tryd.underlying23 Tryd.underlying5 (by kernel_rfl) hf with ⟨hcs, _⟩ | ⟨x, l, c, zs, hcs, _, hl, hm, hz, _, hcell, hwz⟩
    · simp [Value.cells] at hcs
      obtain ⟨rfl, rfl, rfl⟩ := hcs
      exact ⟨[], .inl ⟨rfl, rfl, rfl, rfl⟩⟩
    · simp [Value.cells] at hcs
      obtain ⟨rfl, rfl, rfl⟩ := hcs
      exact ⟨zs, .inr ⟨_, rfl, hl, hm, by simpa using hz, hcell, hwz⟩⟩
  obtain ⟨a1, rfl, rfl, rfl, w1⟩ := open_int Tryd.underlying3 (hval 1 3 v1 rfl rfl) h1
  obtain ⟨a2, rfl, rfl, rfl, w2⟩ := open_int Tryd.underlying22 (hval 2 22 v2 rfl rfl) h2
  clear hA0 hval0
  have ht := facts_of_laid hL
  refine (walk a0 len0 cap0 z0 a1 a2 W ht w0 w1 w2).mono fun e W' ⟨he, bel⟩ => ?_
  subst he
  exact ⟨_, rfl, _, _, _, [], _, [], hW', trodAll_mk1 (shut_bool Tryd.underlying4 _), (trodAll_cons_mk (Below.trod laidOut (by kernel_rfl) (of_decide_eq_true (by kernel_rfl)) k0 bel lt0) (trodAll_cons_mk (shut_int Tryd.underlying3 w1) (trodAll_cons_mk (shut_int Tryd.underlying22 w2) trodAll_mk0))), rfl, bel.frame _, fun h => by cases h⟩

theorem over : Rows.crcFindsRow.holds Tryd.pinned (OpenSpec.ofChange Rows.crcFindsSpec) :=
  OpenClaim.holds_of_wide 6 Tryd.f6 rfl rfl rfl rfl rfl rfl rfl ⟨rfl, rfl, rfl, rfl, rfl⟩ rfl rfl rfl rfl rfl (by kernel_rfl) Tryd.func6 (by kernel_rfl)
    (of_decide_eq_true (by kernel_rfl)) (by unfold Func.isWrapper; first | (rw [if_pos (by decide +kernel)]; kernel_rfl) | (rw [if_neg (by decide +kernel)]; exact ⟨rfl, rfl⟩))
    (fun os started H enc _ => lifted os started H enc)

/-- The statement: the tied card. -/
theorem proved : Rows.CrcFindsCardSaid :=
  Claim7.holds_tied_plain_at .later [] [.data] true _ false
    over (fun _ h => by cases h) (by kernel_rfl) (fun _ h => by cases h) crcFinds_row_tie rfl ⟨rfl, rfl⟩ (by kernel_rfl) rfl
    (fun f fn hf hfn => by
      obtain rfl : f = 6 := Option.some.inj ((show Tryd.prog.funcNamed "tidepole/tidepolelaw02.CrcFinds" = some 6 by kernel_rfl).symm.trans hf) |>.symm
      obtain rfl : fn = Tryd.f6 := (Option.some.inj (Tryd.func6.symm.trans hfn)).symm
      exact ⟨by kernel_rfl, fun j t ht => by
        rw [Tryd.params6] at ht
        have hm : t ∈ [23, 3, 22] := by simpa using Array.mem_of_getElem? ht
        have hall : ([23, 3, 22].all fun u => !Tryd.prog.wantsStandIn u) = true := by kernel_rfl
        exact (show Tryd.prog.wantsStandIn t = false by simpa using List.all_eq_true.1 hall t hm)⟩)
    (by kernel_rfl)
#print axioms proved
end Go.Proofs.YtmfllalmnhkakaaDoor.crcFinds
