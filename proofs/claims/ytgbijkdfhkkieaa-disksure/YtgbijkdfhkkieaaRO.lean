/-
  The reference's Cut.
-/
import Derived.Test.YtgbijkdfhkkieaaRN
namespace Go.Proofs.Ytgbijkdfhkkieaa
open Go.RowKit Go.Maps Go.Lib
set_option linter.unusedVariables false
set_option linter.unusedSimpArgs false
theorem RRes2.one {w w1 w' : World} {y : Nat} {R X : Nat → Prop} {k : Nat} {e : Ending} (h : RRes2 w1 y R X k e w') (hb : Below w.heap.size w w1) (hX : ∀ x, X x → w.heap.size ≤ x) : RRes w y R k e w' := by
  obtain ⟨q, r', R', h1, h2, h3, h4, h5⟩ := h
  refine ⟨q, r', R', h1, h2, h3, (But.of_below hb R).trans h4 (fun _ _ e => e), fun x hx => ?_⟩
  rcases h5 x hx with h | h | h
  · exact .inl h
  · exact .inr (hX x h)
  · exact .inr (Nat.le_trans hb.size h)
section
variable {w : World} {y : Nat} {r : RM} {I : Nat → Prop} {vF vD vS : Value} {K : Nat}
set_option maxHeartbeats 4000000 in
set_option maxRecDepth 100000 in
theorem rcut_any (h : Rk w y r I vF vD vS) (hw : Rw2 r K) (hK : K ≤ 100000) (s : ByteArray) (n : Int) : Calls Try.prog 50 #[ptr y, .string s, .int .i64 n] w (RRes w y (Ry y I vF) (K + 1)) := by
  have hD : r.D.length ≤ 1000000 := by have := hw.d; omega
  go_enter Try.func50, Try.ntmps50
  go_wp2_with fail
  refine (rfind_any h hD s).mono ?_
  rintro e w1 ⟨hw1, ⟨f, hf, rfl⟩ | ⟨q, hq, rfl⟩⟩
  · replace hw1 := hw1.symm; subst hw1
    by_cases hn0 : n < 0
    · replace h := hide h
      go_wp2_with fail
      go_ret
      exact rres_same h.out hw _
    · obtain ⟨c0, c1, c2, c3, c4, c5, c6⟩ := h.cs
      obtain ⟨g, of, cF, p, eF, hp, hpm, z1, z2, eo, gcur, hgb⟩ := h.at hf
      obtain ⟨aN, nN, cN, lN, eN, HN, hnN, _⟩ := (h.fl p hpm).1
      have hFl := hw.f
      have i2 : (f : Int) < (r.F.length : Int) := by omega
      have i3 : (0 : Int) ≤ (f : Int) := by omega
      rw [eN] at z1
      replace h := hide h
      clear eo hgb hp eN z2
      subst eF
      by_cases hn1 : (nN : Int) < n
      · clear HN
        go_wp2_with fail
        go_ret
        exact rres_same h.out hw _
      · obtain ⟨m, rfl⟩ : ∃ m : Nat, n = (m : Int) := ⟨n.toNat, by omega⟩
        have hm : m ≤ nN := by omega
        have RH := run_h
        have BA : Below w.heap.size w (w.alloc (.cells #[] 5)) := (Below.refl _ w).alloc (Nat.le_refl _) _
        have O1 := hide (owns_empty w)
        have HA := hide ((HN.front m hm).kept BA (Nat.le_refl _))
        have rh := run_h (w.alloc (.cells #[] 5)) aN nN cN m (Nat.le_trans hm HN.le)
        have hZ : Hid (w.heap.size ≤ (w.alloc (.cells #[] 5)).heap.size) := BA.size
        have hA := hide (h.out.below BA)
        obtain ⟨q0, q1, q2, q3, q4, q5, q6⟩ := hA.out.cs
        have zA : (w.alloc (.cells #[] 5)).cell? ⟨g, of + f * 2, none⟩ = some (.slice aN nN cN) := by
          have hl : g < w.heap.size := (h.out.ow.lt g rfl).2
          exact (BA.cell (p := ⟨g, of + f * 2, none⟩) hl).trans z1
        have hby : Hid (∀ x ∈ lN.take m, 0 ≤ x ∧ x ≤ 255) := fun x hx => HN.bytes x (List.mem_of_mem_take hx)
        replace BA := hide BA
        clear RH HN
        go_wp2_with (first
          | (refine wpList_app rfl (.tmp 35) (.tmp 45) rfl w.heap.size _ 0 [] rfl O1.out _ _ _ _ rfl HA.out (by omega) hZ.out ?_
             intro v8 w3 O8 G8
             rw [Nat.zero_add, List.nil_append] at O8
             have B3 := hide (BA.out.grown G8 hZ.out (fun q e => (O1.out.lt q e).1))
             have L3 : Hid (∀ k, v8.ownBlock = some k → w.heap.size ≤ k ∧ k < w3.heap.size) := fun k hk => O8.lt k hk
             obtain ⟨a8, c8, e8, H8⟩ := has_of_owns O8 hby.out
             subst e8
             replace H8 := hide H8
             clear O8 G8))
        refine (rset_any (h.out.below B3.out) hw hK hf H8.out (by omega) (fun hp k hk => ⟨(L3.out k hk).2, fun e => ?_, fun e => ?_⟩)).mono ?_
        · have := (L3.out k hk).1
          have := h.out.yb.lt
          omega
        · have := (L3.out k hk).1
          have := (h.out.ow.lt k e).2
          omega
        · rintro e w5 hres
          have fin := hide (hres.one B3.out (fun x hx => (L3.out x hx.2).1))
          obtain ⟨qq, r', R', rfl, _⟩ := hres
          go_wp2_with fail
          go_ret
          exact fin.out
  · replace hw1 := hw1.symm; subst hw1
    have q1 : (q != 0) = true := by simpa using hq
    have q2 : (q == 0) = false := by simpa using hq
    replace hq := hide hq
    replace h := hide h
    go_wp2_with fail
    go_ret
    exact rres_same h.out hw _
end
end Go.Proofs.Ytgbijkdfhkkieaa
