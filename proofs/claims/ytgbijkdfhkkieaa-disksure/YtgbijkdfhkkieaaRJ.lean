/-
  The reference's Create.
-/
import Derived.Test.YtgbijkdfhkkieaaRI
namespace Go.Proofs.Ytgbijkdfhkkieaa
open Go.RowKit Go.Maps Go.Lib
set_option linter.unusedVariables false
set_option linter.unusedSimpArgs false
section
variable {w : World} {y : Nat} {r : RM} {I : Nat → Prop} {vF vD vS : Value} {K : Nat}
theorem Rk.drew (h : Rk w y r I vF vD vS) : Rk w.drew y r I vF vD vS := h.below ((Below.refl _ _).drew)
set_option maxHeartbeats 4000000 in
set_option maxRecDepth 100000 in
theorem rcreate_any (h : Rk w y r I vF vD vS) (hw : Rw2 r K) (hK : K ≤ 100000) (s : ByteArray) : Calls Try.prog 46 #[ptr y, .string s] w (RRes w y (Ry y I vF) (K + 1)) := by
  have hD : r.D.length ≤ 1000000 := by have := hw.d; omega
  obtain ⟨c0, c1, c2, c3, c4, c5, c6⟩ := h.cs
  cases hks : nameOk s with
  | false =>
    replace h := hide h
    go_enter Try.func46, Try.ntmps46
    go_wp2_with fail
    refine (rname_any s w).mono ?_
    rintro e w1 ⟨rfl, hw1⟩; replace hw1 := hw1.symm; subst hw1
    rw [hks]
    go_wp2_with fail
    go_ret
    exact rres_same h.out hw _
  | true =>
    cases hg : r.gone with
    | true =>
      rw [hg] at c6
      replace h := hide h
      go_enter Try.func46, Try.ntmps46
      go_wp2_with fail
      refine (rname_any s w).mono ?_
      rintro e w1 ⟨rfl, hw1⟩; replace hw1 := hw1.symm; subst hw1
      rw [hks]
      go_wp2_with fail
      go_ret
      exact rres_same h.out hw _
    | false =>
      rw [hg] at c6
      go_enter Try.func46, Try.ntmps46
      go_wp2_with fail
      refine (rname_any s w).mono ?_
      rintro e w1 ⟨rfl, hw1⟩; replace hw1 := hw1.symm; subst hw1
      rw [hks]
      replace hks := hide hks
      go_wp2_with fail
      refine (rat_any h hD s).mono ?_
      rintro e w1 ⟨hw1, ⟨k, hk, rfl⟩ | rfl⟩
      · replace hw1 := hw1.symm; subst hw1
        have i1 : (0 : Int) ≤ (k : Int) := by omega
        replace h := hide h
        go_wp2_with fail
        go_ret
        exact rres_same h.out hw _
      · replace hw1 := hw1.symm; subst hw1
        go_wp2_with fail
        refine (rstep_any h (by have := hw.n; omega) hw.l).mono ?_
        rintro e w2 ⟨rfl, h2, b2⟩
        clear c0 c1 c2 c3 c4 c5 c6
        cases hl : r.lf != 0 with
        | false =>
          replace h2 := hide h2
          replace b2 := hide b2
          go_wp2_with fail
          go_ret
          exact rres_step h2.out hw b2.out _
        | true =>
          obtain ⟨e1, e2, e3, e4⟩ := rst_same r
          have hFl : (rst r).F.length ≤ K := by rw [e1]; exact hw.f
          have hDl : (rst r).D.length ≤ K := by rw [e2]; exact hw.d
          clear e1 e2 e3 e4
          have BA : Below w2.heap.size w2 (w2.alloc (.cells #[.slice none 0 0, .slice none 0 0] 102)) := (Below.refl _ w2).alloc (Nat.le_refl _) _
          obtain ⟨q0, q1, q2, q3, q4, q5, q6⟩ := h2.cs
          have cc := hide (cells2 w2 (.slice none 0 0) (.slice none 0 0) 102)
          have hA := hide (h2.below BA)
          obtain ⟨p0, p1, p2, p3, p4, p5, p6⟩ := hA.out.cs
          replace BA := hide BA
          replace h2 := hide h2
          replace b2 := hide b2
          clear h
          go_wp2_with (first
            | (refine wpList_appF rfl (.tmp 23) (.tmp 25) rfl vF _ _ rfl hA.out.ow w2.heap.size 1 rfl cc.out.1 cc.out.2 (by omega) ?_
               intro v8 w3 O8 G8 hv
               have yb3 := hA.out.yb.but ((But.refl (fun x => vF.ownBlock = some x) _).grown G8 (fun k e _ => e)) (fun e => (h2.out.ik y e).2 rfl)
               obtain ⟨D4, b4, t4⟩ := h2.out.grow BA.out O8 G8 hv
               obtain ⟨a8, c8, e8⟩ := slice_of_owns2 O8
               subst e8
               have f2 := yb3.fz 2
               have g2 := yb3.cell 2
               replace D4 := hide D4
               replace b4 := hide b4
               replace t4 := hide t4
               simp only [List.getElem?_toArray, List.getElem?_cons_succ, List.getElem?_cons_zero] at g2
               clear O8 G8 hv yb3 p0 p1 p2 p3 p4 p5 p6 q0 q1 q2 q3 q4 q5 q6))
          obtain ⟨w4, hw4⟩ : ∃ x, w3.setCell ⟨y, 2, none⟩ (.slice a8 ((rst r).F.length + 1) c8) = x := ⟨_, rfl⟩
          rw [hw4] at D4 b4
          rw [hw4]
          clear hw4 f2 g2
          obtain ⟨g0, g1, g2, g3, g4, g5, g6⟩ := D4.out.cs
          obtain ⟨aD, nD, cD, eD, HD, _⟩ := D4.out.dd
          have hnD := HD.hlen
          subst eD
          refine reg46_10 w4 y s _ a8 ((rst r).F.length + 1) c8 (rst r).F.length g3 g2 (by omega) (wrapi _ (by omega))
            (fun aP nP cP w' => ∃ L, HasE w' aP nP cP L ∧ (∀ x ∈ L, x ∈ (rst r).D ∨ x = (s, (rst r).F.length)) ∧ nP ≤ nD + 1 ∧ Below w4.heap.size w4 w' ∧ ∀ k, (Value.slice aP nP cP).ownBlock = some k → w4.heap.size ≤ k ∧ k < w'.heap.size)
            (fun wx hx => ?_) _ _ _ _ _ _ _ _ _ _ _ _ _ _ _ _ _ _ _ _ _ _ _ _ _ _ _ _ _ _ _ _ _ _ _ _ _ _ _ _ _ _ _ _ (fun aP nP cP wp hP => ?_)
          · subst hx
            refine (rput_any (w := w4.drew) (HD.below (Below.refl _ _).drew) (by simp only at hnD; omega) s (rst r).F.length).mono ?_
            rintro e wz ⟨aP, nP, cP, L, rfl, HP, hm, hn, BP, hoP⟩
            have BQ : Below w4.heap.size w4 wz := ((Below.refl _ w4).drew).trans BP
            have := D4.out.below BQ
            exact ⟨aP, nP, cP, rfl, ⟨L, HP, hm, hn, BQ, hoP⟩, this.yb.fz 3, _, this.yb.cell 3⟩
          · obtain ⟨L, HP, hm, hn, BP, hoP⟩ := hP
            have hFF : ((rst r).F ++ [((.slice none 0 0 : Value), (.slice none 0 0 : Value))]).length = (rst r).F.length + 1 := by simp
            obtain ⟨D5, b5⟩ := D4.out.dir BP HP hoP (fun e he => by
              show e.2 < ((rst r).F ++ [((.slice none 0 0 : Value), (.slice none 0 0 : Value))]).length
              rw [hFF]
              rcases hm e he with e' | e'
              · have := h2.out.xd e e'; omega
              · rw [e']; exact Nat.lt_succ_self _)
            have hlL : Hid (L.length ≤ K + 1) := by
              show L.length ≤ K + 1
              have := HP.hlen
              simp only at hnD
              omega
            have sz : Hid (w.heap.size ≤ w2.heap.size ∧ w2.heap.size ≤ w4.heap.size) := ⟨b2.out.size, b4.out.size⟩
            have bb : Hid (But (Ry y I vF) w (wp.setCell ⟨y, 3, none⟩ (.slice aP nP cP))) := ((b2.out.mono (fun x e => .inl e)).trans b4.out (fun _ _ e => e)).trans (b5.mono (fun x e => (.inl e : Ry y I vF x))) (fun _ _ e => e)
            replace D5 := hide D5
            clear HP hm BP hoP b5 HD g0 g1 g2 g3 g4 g5 g6
            go_wp2_with fail
            go_ret
            refine ⟨0, _, _, rfl, ⟨_, _, _, _, D5.out, rfl⟩, ?_, bb.out, ?_⟩
            · have hs := hw.step
              exact ⟨by show ((rst r).F ++ [((.slice none 0 0 : Value), (.slice none 0 0 : Value))]).length ≤ _; rw [hFF]; omega, hlL.out, hs.s, hs.n, hs.l⟩
            · rintro x (e | e | e | e)
              · exact .inl (.inl e)
              · rcases t4.out x (.inr (.inl e)) with f | f
                · exact .inl f
                · exact .inr (Nat.le_trans sz.out.1 f)
              · exact .inl (.inr (.inr e))
              · exact .inr (by have := sz.out; omega)
end
end Go.Proofs.Ytgbijkdfhkkieaa
