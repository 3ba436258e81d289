/-
  The reference's set.
-/
import Derived.Test.YtgbijkdfhkkieaaRL
namespace Go.Proofs.Ytgbijkdfhkkieaa
open Go.RowKit Go.Maps Go.Lib
set_option linter.unusedVariables false
set_option linter.unusedSimpArgs false
/-- How a call on the reference's disk ends that takes in blocks of X. -/
def RRes2 (w : World) (y : Nat) (R X : Nat → Prop) (k : Nat) (e : Ending) (w' : World) : Prop := ∃ q r' R', e = .returned (.int .i64 q) ∧ Ref w' y r' R' ∧ Rw2 r' k ∧ But R w w' ∧ ∀ x, R' x → R x ∨ X x ∨ w.heap.size ≤ x
theorem RRes.two {w w' : World} {y : Nat} {R X : Nat → Prop} {k : Nat} {e : Ending} (h : RRes w y R k e w') : RRes2 w y R X k e w' := by
  obtain ⟨q, r', R', h1, h2, h3, h4, h5⟩ := h
  exact ⟨q, r', R', h1, h2, h3, h4, fun x hx => by
    rcases h5 x hx with h | h
    · exact .inl h
    · exact .inr (.inr h)⟩
section
variable {w : World} {y : Nat} {r : RM} {I : Nat → Prop} {vF vD vS : Value} {K : Nat}
theorem usum_le (F : List (Value × Value)) (D : List Ent) (h : ∀ p ∈ F, vlen p.1 ≤ 4194304) : usum F D ≤ D.length * 16384 := by
  induction D with
  | nil => exact Nat.zero_le _
  | cons e D ih =>
    have h1 : sec (vlen (F.getD e.2 (undef, undef)).1) ≤ 16384 := by
      have : vlen (F.getD e.2 (undef, undef)).1 ≤ 4194304 := by
        rw [List.getD_eq_getElem?_getD]
        cases hq : F[e.2]? with
        | none => exact Nat.zero_le _
        | some p => exact h p (List.mem_of_getElem? hq)
      unfold sec; omega
    unfold usum at ih ⊢
    rw [List.map_cons, List.sum_cons, List.length_cons]
    omega
theorem Rk.used_le (h : Rk w y r I vF vD vS) : rUsed r ≤ r.D.length * 16384 := by
  unfold rUsed
  split
  · exact Nat.zero_le _
  · exact usum_le _ _ (fun p hp => by
      obtain ⟨a, n, c, l, e, _, hn, _⟩ := (h.fl p hp).1
      rw [e]; exact hn)
theorem Rk.drewN (h : Rk w y r I vF vD vS) (k : Nat) : Rk (w.drewN k) y r I vF vD vS := h.below (belowN (Below.refl _ _) k)
theorem rres_drewN (h : Rk w y r I vF vD vS) (hw : Rw2 r K) (q : Int) (k : Nat) : RRes w y (Ry y I vF) (K + 1) (.returned (.int .i64 q)) (w.drewN k) :=
  ⟨q, r, _, rfl, ⟨I, vF, vD, vS, h.drewN k, rfl⟩, hw.mono (Nat.le_succ _), But.of_below (belowN (Below.refl _ _) k) _, fun x hx => .inl hx⟩
set_option maxHeartbeats 8000000 in
set_option maxRecDepth 100000 in
theorem rset_any (h : Rk w y r I vF vD vS) (hw : Rw2 r K) (hK : K ≤ 100000) {f : Nat} (hf : f < r.F.length) {ab : Option Addr} {lb cb : Nat} {B : List Int} (hB : Has w ab lb cb B) (hlb : lb ≤ 8388608) (hbo : 0 < lb → ∀ k, (Value.slice ab lb cb).ownBlock = some k → k < w.heap.size ∧ k ≠ y ∧ vF.ownBlock ≠ some k) :
    Calls Try.prog 75 #[ptr y, .int .i64 (f : Int), .slice ab lb cb] w (RRes2 w y (Ry y I vF) (fun x => 0 < lb ∧ (Value.slice ab lb cb).ownBlock = some x) (K + 1)) := by
  by_cases hlong : 4194304 < lb
  · have i1 : (4194304 : Int) < (lb : Int) := by omega
    replace h := hide h
    replace hB := hide hB
    replace hbo := hide hbo
    go_enter Try.func75, Try.ntmps75
    go_wp2_with fail
    go_ret
    exact (rres_same h.out hw _).two
  · have i1 : ¬ ((4194304 : Int) < (lb : Int)) := by omega
    have hFl := hw.f
    have hDl := hw.d
    obtain ⟨c0, c1, c2, c3, c4, c5, c6⟩ := h.cs
    obtain ⟨g, of, cF, p, eF, hp, hpm, z1, z2, eo, gcur, hgb⟩ := h.at hf
    obtain ⟨aN, nN, cN, lN, eN, HN, hnN, _⟩ := (h.fl p hpm).1
    have PU := hide (fun k : Nat => rused_any (h.drewN k) (by omega) (by omega))
    have PS := hide (fun (wx : World) => rsectors_any wx nN (by omega))
    have PB := hide (fun (wx : World) => rsectors_any wx lb (by omega))
    have hU : rUsed r ≤ 100000 * 16384 := by have := h.used_le; omega
    obtain ⟨U, hUe⟩ : ∃ U, rUsed r = U := ⟨_, rfl⟩
    obtain ⟨S1, hS1⟩ : ∃ S, sec nN = S := ⟨_, rfl⟩
    obtain ⟨S2, hS2⟩ : ∃ S, sec lb = S := ⟨_, rfl⟩
    rw [hUe] at PU hU
    rw [hS1] at PS
    rw [hS2] at PB
    have b1 : S1 ≤ 16384 := by rw [← hS1]; unfold sec; omega
    have b2 : S2 ≤ 16384 := by rw [← hS2]; unfold sec; omega
    have w1 : IntKind.i64.wrap ((U : Int) - (S1 : Int)) = (U : Int) - (S1 : Int) := wrapi _ (by omega)
    have w2 : IntKind.i64.wrap ((U : Int) - (S1 : Int) + (S2 : Int)) = (U : Int) - (S1 : Int) + (S2 : Int) := wrapi _ (by omega)
    have i2 : (f : Int) < (r.F.length : Int) := by omega
    have i3 : (0 : Int) ≤ (f : Int) := by omega
    rw [eN] at z1
    replace h := hide h
    replace hB := hide hB
    replace hbo := hide hbo
    replace eo := hide eo
    replace hgb := hide hgb
    replace hp := hide hp
    replace eN := hide eN
    have eF' := hide eF
    subst eF
    clear HN hUe hS1 hS2
    by_cases hc : r.mx < (U : Int) - (S1 : Int) + (S2 : Int)
    · by_cases hd : (S1 : Int) < (S2 : Int)
      · go_enter Try.func75, Try.ntmps75
        go_wp2_with fail
        go_quiet (first | (go_at_call 85; exact Calls.quiet_of ((PU.out _).mono fun _ _ ⟨h1, _, h2⟩ => ⟨h1, h2⟩)) | (go_at_call 86; exact Calls.quiet_of_same (PS.out _)) | (go_at_call 86; exact Calls.quiet_of_same (PB.out _)))
        go_wp2_with fail
        go_ret
        exact (rres_drewN h.out hw _ _).two
      · go_enter Try.func75, Try.ntmps75
        go_wp2_with fail
        go_quiet (first | (go_at_call 85; exact Calls.quiet_of ((PU.out _).mono fun _ _ ⟨h1, _, h2⟩ => ⟨h1, h2⟩)) | (go_at_call 86; exact Calls.quiet_of_same (PS.out _)) | (go_at_call 86; exact Calls.quiet_of_same (PB.out _)))
        go_wp2_with fail
        refine (rstep_any (h.out.drewN nq) (by have := hw.n; omega) hw.l).mono ?_
        rintro e w4 ⟨rfl, h4, b4⟩
        have b5 : Hid (But (fun x => x = y) w w4) := (But.of_below (belowN (Below.refl _ w) nq) _).trans b4 (fun _ _ e => e)
        clear b4
        cases hl : r.lf != 0 with
        | false =>
          replace h4 := hide h4
          go_wp2_with fail
          go_ret
          exact (rres_step h4.out hw b5.out _).two
        | true =>
          obtain ⟨e1, e2, e3, e4⟩ := rst_same r
          have hsz : Hid (w.heap.size ≤ w4.heap.size) := b5.out.size
          have hgy : g ≠ y := (h.out.ik g rfl).2
          have hp4 : (rst r).F[f]? = some p := by rw [e1]; exact hp.out
          have hB4 : Has w4 ab lb cb B := hB.out.but2 b5.out (fun hp k hk => (hbo.out hp k hk).2.1)
          have hJ : ∀ k, I k → (I k ∨ (0 < lb ∧ (Value.slice ab lb cb).ownBlock = some k)) := fun k hk => .inl hk
          have s2 : Sl w4 (fun k => I k ∨ (0 < lb ∧ (Value.slice ab lb cb).ownBlock = some k)) p.2 := ((h4.fl p (by rw [e1]; exact hpm)).2).more hJ
          have s1 : Sl w4 (fun k => I k ∨ (0 < lb ∧ (Value.slice ab lb cb).ownBlock = some k)) (.slice ab lb cb) := ⟨ab, lb, cb, B, rfl, hB4, by omega, fun hp k hk => .inr ⟨hp, hk⟩⟩
          have eo' := eo.out
          subst eo'
          have fz4 : w4.frozen? ⟨g, 0 + f * 2, none⟩ = false := by
            have := hgb.out.but b5.out hgy
            exact this.fz _
          have cl4 : ∃ u, w4.cell? ⟨g, 0 + f * 2, none⟩ = some u := by
            have := hgb.out.but b5.out hgy
            refine ⟨_, (this.cell _).trans ((hgb.out.cell _).symm.trans z1)⟩
          obtain ⟨D5, b6⟩ := h4.store (i := 0 + f * 2) (p' := (.slice ab lb cb, p.2)) (by rw [e1]) hp4 (.slice ab lb cb) (by rw [Nat.zero_add]; exact (flat2_set _ _ _ _ hp4).1) (J := fun k => I k ∨ (0 < lb ∧ (Value.slice ab lb cb).ownBlock = some k)) hJ
            (by
              rintro (hi | hi)
              · exact h.out.iy hi
              · exact (hbo.out hi.1 y hi.2).2.1 rfl)
            (by
              rintro (hi | hi)
              · exact (h.out.ik g rfl).1 hi
              · exact (hbo.out hi.1 g hi.2).2.2 rfl)
            (by
              rintro k (hi | hi)
              · exact h4.lt k hi
              · exact Nat.lt_of_lt_of_le (hbo.out hi.1 k hi.2).1 hsz.out) s1 s2
          have bb : Hid (But (Ry y I (Value.slice (some ⟨g, 0, none⟩) r.F.length cF)) w (w4.setCell ⟨g, 0 + f * 2, none⟩ (.slice ab lb cb))) := (b5.out.mono (fun x e => (.inl e : Ry y I _ x))).trans (b6.mono (fun x e => (.inr (.inl (by rw [e]; rfl)) : Ry y I _ x))) (fun _ _ e => e)
          obtain ⟨q0, q1, q2, q3, q4, q5, q6⟩ := h4.cs
          obtain ⟨cu, cl4⟩ := cl4
          rw [Nat.zero_add] at D5 cl4 fz4
          have bb' := bb.out
          rw [Nat.zero_add] at bb'
          replace D5 := hide D5
          replace bb' := hide bb'
          clear bb
          replace h4 := hide h4
          clear b6 s1 s2 hJ hB4 hp4 z1 z2 c0 c1 c3 c4 c5 c6
          clear e1 e2 e3 e4
          go_wp2_with fail
          go_ret
          refine ⟨0, _, _, rfl, ⟨_, _, _, _, D5.out, rfl⟩, ?_, bb'.out, ?_⟩
          · have hs := hw.step
            exact ⟨by show ((rst r).F.set f _).length ≤ _; rw [List.length_set]; exact hs.f, hs.d, hs.s, hs.n, hs.l⟩
          · rintro x (e | e | e | e)
            · exact .inl (.inl e)
            · exact .inl (.inr (.inl e))
            · exact .inl (.inr (.inr e))
            · exact .inr (.inl e)
    · have hcd : decide (r.mx < (U : Int) - (S1 : Int) + (S2 : Int)) = false := decide_eq_false hc
      have hcl : (U : Int) - (S1 : Int) + (S2 : Int) ≤ r.mx := by omega
      go_enter Try.func75, Try.ntmps75
      go_wp2_with fail
      go_quiet (first | (go_at_call 85; exact Calls.quiet_of ((PU.out _).mono fun _ _ ⟨h1, _, h2⟩ => ⟨h1, h2⟩)) | (go_at_call 86; exact Calls.quiet_of_same (PS.out _)) | (go_at_call 86; exact Calls.quiet_of_same (PB.out _)))
      go_wp2_with fail
      refine (rstep_any (h.out.drewN nq) (by have := hw.n; omega) hw.l).mono ?_
      rintro e w4 ⟨rfl, h4, b4⟩
      have b5 : Hid (But (fun x => x = y) w w4) := (But.of_below (belowN (Below.refl _ w) nq) _).trans b4 (fun _ _ e => e)
      clear b4
      cases hl : r.lf != 0 with
      | false =>
        replace h4 := hide h4
        go_wp2_with fail
        go_ret
        exact (rres_step h4.out hw b5.out _).two
      | true =>
        obtain ⟨e1, e2, e3, e4⟩ := rst_same r
        have hsz : Hid (w.heap.size ≤ w4.heap.size) := b5.out.size
        have hgy : g ≠ y := (h.out.ik g rfl).2
        have hp4 : (rst r).F[f]? = some p := by rw [e1]; exact hp.out
        have hB4 : Has w4 ab lb cb B := hB.out.but2 b5.out (fun hp k hk => (hbo.out hp k hk).2.1)
        have hJ : ∀ k, I k → (I k ∨ (0 < lb ∧ (Value.slice ab lb cb).ownBlock = some k)) := fun k hk => .inl hk
        have s2 : Sl w4 (fun k => I k ∨ (0 < lb ∧ (Value.slice ab lb cb).ownBlock = some k)) p.2 := ((h4.fl p (by rw [e1]; exact hpm)).2).more hJ
        have s1 : Sl w4 (fun k => I k ∨ (0 < lb ∧ (Value.slice ab lb cb).ownBlock = some k)) (.slice ab lb cb) := ⟨ab, lb, cb, B, rfl, hB4, by omega, fun hp k hk => .inr ⟨hp, hk⟩⟩
        have eo' := eo.out
        subst eo'
        have fz4 : w4.frozen? ⟨g, 0 + f * 2, none⟩ = false := by
          have := hgb.out.but b5.out hgy
          exact this.fz _
        have cl4 : ∃ u, w4.cell? ⟨g, 0 + f * 2, none⟩ = some u := by
          have := hgb.out.but b5.out hgy
          refine ⟨_, (this.cell _).trans ((hgb.out.cell _).symm.trans z1)⟩
        obtain ⟨D5, b6⟩ := h4.store (i := 0 + f * 2) (p' := (.slice ab lb cb, p.2)) (by rw [e1]) hp4 (.slice ab lb cb) (by rw [Nat.zero_add]; exact (flat2_set _ _ _ _ hp4).1) (J := fun k => I k ∨ (0 < lb ∧ (Value.slice ab lb cb).ownBlock = some k)) hJ
          (by
            rintro (hi | hi)
            · exact h.out.iy hi
            · exact (hbo.out hi.1 y hi.2).2.1 rfl)
          (by
            rintro (hi | hi)
            · exact (h.out.ik g rfl).1 hi
            · exact (hbo.out hi.1 g hi.2).2.2 rfl)
          (by
            rintro k (hi | hi)
            · exact h4.lt k hi
            · exact Nat.lt_of_lt_of_le (hbo.out hi.1 k hi.2).1 hsz.out) s1 s2
        have bb : Hid (But (Ry y I (Value.slice (some ⟨g, 0, none⟩) r.F.length cF)) w (w4.setCell ⟨g, 0 + f * 2, none⟩ (.slice ab lb cb))) := (b5.out.mono (fun x e => (.inl e : Ry y I _ x))).trans (b6.mono (fun x e => (.inr (.inl (by rw [e]; rfl)) : Ry y I _ x))) (fun _ _ e => e)
        obtain ⟨q0, q1, q2, q3, q4, q5, q6⟩ := h4.cs
        obtain ⟨cu, cl4⟩ := cl4
        rw [Nat.zero_add] at D5 cl4 fz4
        have bb' := bb.out
        rw [Nat.zero_add] at bb'
        replace D5 := hide D5
        replace bb' := hide bb'
        clear bb
        replace h4 := hide h4
        clear b6 s1 s2 hJ hB4 hp4 z1 z2 c0 c1 c3 c4 c5 c6
        clear e1 e2 e3 e4
        go_wp2_with fail
        go_ret
        refine ⟨0, _, _, rfl, ⟨_, _, _, _, D5.out, rfl⟩, ?_, bb'.out, ?_⟩
        · have hs := hw.step
          exact ⟨by show ((rst r).F.set f _).length ≤ _; rw [List.length_set]; exact hs.f, hs.d, hs.s, hs.n, hs.l⟩
        · rintro x (e | e | e | e)
          · exact .inl (.inl e)
          · exact .inl (.inr (.inl e))
          · exact .inl (.inr (.inr e))
          · exact .inr (.inl e)
end
end Go.Proofs.Ytgbijkdfhkkieaa
