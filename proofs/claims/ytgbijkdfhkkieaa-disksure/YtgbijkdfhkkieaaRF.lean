/-
  The reference's Rename.
-/
import Derived.Test.YtgbijkdfhkkieaaRE
namespace Go.Proofs.Ytgbijkdfhkkieaa
open Go.RowKit Go.Maps Go.Lib
set_option linter.unusedVariables false
set_option linter.unusedSimpArgs false
section
variable {w : World} {y : Nat} {r : RM} {I : Nat → Prop} {vF vD vS : Value} {K : Nat}
set_option maxHeartbeats 4000000 in
set_option maxRecDepth 100000 in
theorem rrename_any (h : Rk w y r I vF vD vS) (hw : Rw2 r K) (hK : K ≤ 100000) (s t : ByteArray) : Calls Try.prog 52 #[ptr y, .string s, .string t] w (RRes w y (Ry y I vF) (K + 1)) := by
  have hD : r.D.length ≤ 1000000 := by have := hw.d; omega
  cases hks : nameOk s with
  | false =>
    replace h := hide h
    go_enter Try.func52, Try.ntmps52
    go_wp2_with fail
    refine (rname_any s w).mono ?_
    rintro e w1 ⟨rfl, hw1⟩; replace hw1 := hw1.symm; subst hw1
    rw [hks]
    go_wp2_with fail
    go_ret
    exact rres_same h.out hw _
  | true =>
    cases hkt : nameOk t with
    | false =>
      replace h := hide h
      go_enter Try.func52, Try.ntmps52
      go_wp2_with fail
      refine (rname_any s w).mono ?_
      rintro e w1 ⟨rfl, hw1⟩; replace hw1 := hw1.symm; subst hw1
      rw [hks]
      go_wp2_with fail
      refine (rname_any t w).mono ?_
      rintro e w1 ⟨rfl, hw1⟩; replace hw1 := hw1.symm; subst hw1
      rw [hkt]
      go_wp2_with fail
      go_ret
      exact rres_same h.out hw _
    | true =>
      go_enter Try.func52, Try.ntmps52
      go_wp2_with fail
      refine (rname_any s w).mono ?_
      rintro e w1 ⟨rfl, hw1⟩; replace hw1 := hw1.symm; subst hw1
      rw [hks]
      go_wp2_with fail
      refine (rname_any t w).mono ?_
      rintro e w1 ⟨rfl, hw1⟩; replace hw1 := hw1.symm; subst hw1
      rw [hkt]
      replace hks := hide hks
      replace hkt := hide hkt
      go_wp2_with fail
      refine (rfind_any h hD s).mono ?_
      rintro e w1 ⟨hw1, ⟨f, hf, rfl⟩ | ⟨q, hq, rfl⟩⟩
      · replace hw1 := hw1.symm; subst hw1
        go_wp2_with fail
        refine (rstep_any h (by have := hw.n; omega) hw.l).mono ?_
        rintro e w2 ⟨rfl, h2, b2⟩
        cases hl : r.lf != 0 with
        | false =>
          replace h2 := hide h2
          replace b2 := hide b2
          go_wp2_with fail
          go_ret
          exact rres_step h2.out hw b2.out _
        | true =>
          obtain ⟨e1, e2, e3, e4⟩ := rst_same r
          obtain ⟨c0, c1, c2, c3, c4, c5, c6⟩ := h2.cs
          obtain ⟨a, n, c, rfl, H, _⟩ := h2.dd
          have hn := H.hlen
          rw [e2] at hn
          replace h2 := hide h2
          replace b2 := hide b2
          go_wp2_with fail
          refine (without_any H (by omega) s).mono ?_
          rintro e w3 ⟨a3, n3, c3', L3, rfl, H3, hm3, hn3, B3, ho3⟩
          replace hm3 := hide hm3
          replace B3 := hide B3
          clear ho3
          go_wp2_with fail
          refine (rput_any H3 (by omega) t f).mono ?_
          rintro e w4 ⟨a4, n4, c4', L4, rfl, H4, hm4, hn4, B4, ho4⟩
          have BB : Below w2.heap.size w2 w4 := B3.out.trans (B4.mono B3.out.size)
          obtain ⟨D4, b4⟩ := h2.out.dir BB H4 (fun k hk => ⟨Nat.le_trans B3.out.size (ho4 k hk).1, (ho4 k hk).2⟩) (fun e he => by
            rcases hm4 e he with e' | e'
            · exact h2.out.xd e (hm3.out e e')
            · rw [e', e1]; exact hf)
          have f4 := (h2.out.below BB).yb.fz 3
          obtain ⟨g0, g1, g2, g3, g4, g5, g6⟩ := (h2.out.below BB).cs
          have hs2 : Hid (w.heap.size ≤ w2.heap.size) := b2.out.size
          have b5 : Hid (But (fun x => x = y) w (w4.setCell ⟨y, 3, none⟩ (.slice a4 n4 c4'))) := b2.out.trans b4 (fun _ _ e => e)
          replace D4 := hide D4
          have hl3 : Hid (L4.length ≤ K + 1) := by
            show L4.length ≤ K + 1
            have := H4.hlen
            have := hw.d
            omega
          clear H H3 hm3 B3 b4 c0 c1 c2 c3 c4 c5 c6 B4 BB H4 ho4 hm4
          go_wp2_with fail
          go_ret
          refine ⟨0, _, _, rfl, ⟨_, _, _, _, D4.out, rfl⟩, ?_, b5.out.mono (fun x e => .inl e), ?_⟩
          · have := hw.step
            exact ⟨this.f, by have := hl3.out; show L4.length ≤ _; omega, this.s, this.n, this.l⟩
          · rintro x (e | e | e | e)
            · exact .inl (.inl e)
            · exact .inl (.inr (.inl e))
            · exact .inl (.inr (.inr e))
            · exact .inr (Nat.le_trans hs2.out e.1)
      · replace hw1 := hw1.symm; subst hw1
        have q1 : (q != 0) = true := by simpa using hq
        have q2 : (q == 0) = false := by simpa using hq
        replace hq := hide hq
        replace h := hide h
        go_wp2_with fail
        go_ret
        exact rres_same h.out hw _
end
end Go.Proofs.Ytgbijkdfhkkieaa
