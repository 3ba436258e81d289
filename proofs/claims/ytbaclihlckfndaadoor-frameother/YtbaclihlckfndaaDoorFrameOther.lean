/-
  Proved: FrameOther answers true for all inputs, with the package listed variable as the program own text lays it (the tied card). No other condition.
-/
import Derived.Test.YtbaclihlckfndaaDoorRows
import Derived.Test.YtbaclihlckfndaaDoorTie
import Derived.Test.YtbaclihlckfndaaDoorCards
import Derived.Test.YtbaclihlckfndaaDoorI
import Derived.ShutString
import Derived.ChangeOld
import Derived.SevenTiedAt
namespace Go.Proofs.YtbaclihlckfndaaDoor.frameOther
open Go.ChangeShapes Go.WideShapes Go.ChangeAt Go.RowKit
open Go.ChangeMaps (open_string shut_string)
set_option linter.unusedVariables false

theorem rights_other {number other : Nat} (hne : other ≠ number) {ls : List (List Int)} (hb : ∀ x ∈ ls, Byts x) (hn : number + needL ls ≤ 4294967296) : Rights other false (secs (cutAll number ls)) [] := by
  refine Rights.stop _ _ _ ?_
  have h := (chain_cutAll ls number hb (by rw [cutAll_len]; exact hn)).1
  generalize cutAll number ls = ps at h
  cases ps with
  | nil => exact none_short (by simp [secs])
  | cons p ps =>
    rintro ⟨q, hq⟩
    have e : secs (p :: ps) = p.sec ++ secs ps := by simp [secs]
    rw [e] at hq
    have : q = p := (begins_cand hq.1).trans (begins_cand (begins_sec h.1 (secs ps))).symm
    subst this
    exact hne (hq.2.1.symm.trans h.2.1)

set_option maxRecDepth 100000 in
set_option maxHeartbeats 2000000 in
theorem walk (a0 : Int) (a1 : Option Addr) (len1 cap1 : Nat) (l1 : List (List Int)) (a2 : Int) (w : World) (ht : Tab w) (w0 : (Lit.int .i64 a0).wf = true) (w1 : HasL w a1 len1 cap1 l1) (w2 : (Lit.int .i64 a2).wf = true) :
    Calls Tryd.prog 7 #[.int .i64 a0, .slice a1 len1 cap1, .int .i64 a2] w fun e w' => e = .returned (.bool true) ∧ Below w.heap.size w w' := by
  have hp := ht.pos
  have hx0 := wf_i64 w0
  have hx2 := wf_i64 w2
  have hby := few8_byts w1.byts
  have hnd := few8_need l1
  replace ht := hide ht
  replace w1 := hide w1
  go_enter Tryd.func7, Tryd.ntmps7
  go_wp2_with fail
  refine (works_any _ ht.out).mono ?_
  rintro e W1 ⟨rfl, B1⟩
  go_wp2_with fail
  refine (laid_any W1 a0 hx0 a1 len1 cap1 l1 (w1.out.kept B1 (Nat.le_refl _)) (ht.out.kept B1 hp)).mono ?_
  rintro e W2 ⟨am, cm, ab, nb, cb, rfl, hlt, HL, HB, B2⟩
  replace B2 := B1.trans (B2.mono B1.size)
  go_wp2_with fail
  refine (among_any a2 1000000 hx2 (by omega) (by omega) W2).mono ?_
  rintro e W3 ⟨rfl, hlt2, hw3⟩
  replace hw3 := hw3.symm
  subst hw3
  generalize amongOf a0 1000000 = N at hlt HB
  generalize amongOf a2 1000000 = M at hlt2
  have hnn : N + needL (few8 l1) ≤ 4294967296 := by omega
  have hnb : nb ≤ 16777216 := by rw [← HB.hlen, secs_cut_len hby hnn]; omega
  replace HL := hide HL
  replace hby := hide hby
  replace HB := hide HB
  generalize few8 l1 = fs at *
  by_cases hMN : M = N
  · subst hMN
    go_wp2_with fail
    refine (read_back W2 M ab nb cb fs [] (by simpa using HB.out) hnb hby.out hnn (by omega) (none_short (by simp)) (ht.out.kept B2 hp)).mono ?_
    rintro e W4 ⟨a4, c4, rfl, H4, B4⟩
    have hsame := sameL_any W4 a4 am _ _ c4 cm fs fs H4 (HL.out.kept B4 (Nat.le_refl _))
    rw [show decide (fs = fs) = true by simp] at hsame
    replace B4 := hide (B2.trans (B4.mono B2.size))
    replace hsame := hide hsame
    clear H4
    go_wp2_with (go_at_call 20; refine hsame.out.mono ?_; rintro e W5 ⟨rfl, m, hW5⟩; subst hW5)
    go_ret
    exact ⟨rfl, below_drewsN B4.out m⟩
  · have hne : ¬ ((M : Int) = (N : Int)) := by omega
    go_wp2_with fail
    refine (read_any W2 M ab nb cb _ HB.out hnb (by omega) (ht.out.kept B2 hp)).mono ?_
    rintro e W4 ⟨ps, hps, hR⟩
    rw [← rights_once (rights_other hMN hby.out hnn) hps] at hR
    obtain ⟨a4, c4, rfl, H4, B4⟩ := hR
    replace B4 := hide (B2.trans (B4.mono B2.size))
    clear H4
    simp only [St.run, List.foldl_nil, St.none, List.length_nil]
    go_wp2_with fail
    go_ret
    exact ⟨ret_bool (bne_iff_ne.2 hne), B4.out⟩

set_option maxRecDepth 100000 in
theorem lifted (os : Os) (started : os.Started) (H : Type) (enc : TypeId × Value → H) :
    ReturnsInHanded {} Tryd.checked os 7 .any (fun w args => (Rows.frameOtherSpec.pre enc Tryd.prog Tryd.f7 [] false w args ∧ laidMetH Tryd.prog laidAll w) ∧ sizedMet enc Tryd.prog Tryd.f7 (OpenSpec.ofChange Rows.frameOtherSpec) false w args) (Rows.frameOtherSpec.post enc Tryd.prog Tryd.f7 false true false false) := by
  refine returnsInHanded_of_change_and (C := Tryd.checked) (X := fun w _ => laidMetH Tryd.prog laidAll w) (fun _ _ _ hh h => h.of_heap hh) own started (by kernel_rfl) Tryd.func7
    (ChangeSpec.witness_shaped (enc := enc) (C := Tryd.checked) (os := os) (X := fun w _ => laidMetH Tryd.prog laidAll w) false (World.doorLaid Tryd.prog 400 os) #[.int .i64 0, .slice none 0 0, .int .i64 0] 8 rfl (World.shaped_of_RefB (by kernel_rfl) (by kernel_rfl)) (by kernel_rfl) (by kernel_rfl) (by kernel_rfl) (door_met os _)) ?_
  intro W base args ds gs before hval0 hW _ _ hL _
  have hval : ∀ (j : Nat) t v, Tryd.f7.params[j]? = some t → args[j]? = some v → Value.okWide Tryd.prog W .any base t v := hval0
  have hW' := hW
  obtain ⟨p, q, hA0, hV, rfl, hfz, hnd⟩ := hW
  have hA : DataW.TrodAll enc Tryd.prog W 0 (fun _ => true) true Tryd.f7.params.toList args.toList ds p := hA0
  rw [Tryd.params7] at hA hval
  obtain ⟨v0, vs0, d0, ds0, p0, q0, hargs, rfl, rfl, h0, r0⟩ := trodAll_cons hA
  obtain ⟨v1, vs1, d1, ds1, p1, q1, rfl, rfl, rfl, h1, r1⟩ := trodAll_cons r0
  obtain ⟨v2, vs2, d2, ds2, p2, q2, rfl, rfl, rfl, h2, r2⟩ := trodAll_cons r1
  obtain ⟨rfl, rfl, rfl⟩ := trodAll_nil r2
  obtain rfl : args = #[v0, v1, v2] := by cases args; simp_all
  obtain ⟨rfl, rfl⟩ := trodVars_none hV
  obtain ⟨a0, rfl, rfl, rfl, w0⟩ := open_int Tryd.underlying3 (hval 0 3 v0 rfl rfl) h0
  obtain ⟨a1, len1, cap1, rfl⟩ := okWide_slice Tryd.underlying22 (hval 1 22 v1 rfl rfl)
  have k1 := h1
  have lt1 : ∀ x ∈ p1, x.block < W.heap.size := by obtain ⟨m, hm⟩ := k1; exact DataW.trod_lt m _ _ _ hm
  obtain ⟨l1, w1⟩ := came_lists h1
  obtain ⟨a2, rfl, rfl, rfl, w2⟩ := open_int Tryd.underlying3 (hval 2 3 v2 rfl rfl) h2
  clear hA0 hval0
  have ht := facts_of_laid hL
  refine (walk a0 a1 len1 cap1 l1 a2 W ht w0 w1 w2).mono fun e W' ⟨he, bel⟩ => ?_
  subst he
  exact ⟨_, rfl, _, _, _, [], _, [], hW', trodAll_mk1 (shut_bool Tryd.underlying4 _), (trodAll_cons_mk (shut_int Tryd.underlying3 w0) (trodAll_cons_mk (Below.trod laidOut (by kernel_rfl) (of_decide_eq_true (by kernel_rfl)) k1 bel lt1) (trodAll_cons_mk (shut_int Tryd.underlying3 w2) trodAll_mk0))), rfl, bel.frame _, fun h => by cases h⟩

theorem over : Rows.frameOtherRow.holds Tryd.pinned (OpenSpec.ofChange Rows.frameOtherSpec) :=
  OpenClaim.holds_of_wide 7 Tryd.f7 rfl rfl rfl rfl rfl rfl rfl ⟨rfl, rfl, rfl, rfl, rfl⟩ rfl rfl rfl rfl rfl (by kernel_rfl) Tryd.func7 (by kernel_rfl)
    (of_decide_eq_true (by kernel_rfl)) (by unfold Func.isWrapper; first | (rw [if_pos (by decide +kernel)]; kernel_rfl) | (rw [if_neg (by decide +kernel)]; exact ⟨rfl, rfl⟩))
    (fun os started H enc _ => lifted os started H enc)

/-- The statement: the tied card. -/
theorem proved : Rows.FrameOtherCardSaid :=
  Claim7.holds_tied_plain_at .later [] [.data] true _ false
    over (fun _ h => by cases h) (by kernel_rfl) (fun _ h => by cases h) frameOther_row_tie rfl ⟨rfl, rfl⟩ (by kernel_rfl) rfl
    (fun f fn hf hfn => by
      obtain rfl : f = 7 := Option.some.inj ((show Tryd.prog.funcNamed "tidepole/tidepolelaw03.FrameOther" = some 7 by kernel_rfl).symm.trans hf) |>.symm
      obtain rfl : fn = Tryd.f7 := (Option.some.inj (Tryd.func7.symm.trans hfn)).symm
      exact ⟨by kernel_rfl, fun j t ht => by
        rw [Tryd.params7] at ht
        have hm : t ∈ [3, 22, 3] := by have := Array.mem_of_getElem? ht; simp at this ⊢; omega
        have hall : ([3, 22, 3].all fun u => !Tryd.prog.wantsStandIn u) = true := by kernel_rfl
        exact (show Tryd.prog.wantsStandIn t = false by simpa using List.all_eq_true.1 hall t hm)⟩)
    (by kernel_rfl)
#print axioms proved
end Go.Proofs.YtbaclihlckfndaaDoor.frameOther
