/-
  The reference's Write, Append.
-/
import Derived.Test.YtgbijkdfhkkieaaRO
namespace Go.Proofs.Ytgbijkdfhkkieaa
open Go.RowKit Go.Maps Go.Lib
set_option linter.unusedVariables false
set_option linter.unusedSimpArgs false
theorem run_lo (w : World) (b off len cap k : Nat) (h1 : k ≤ len) (h2 : len ≤ cap) (h3 : k < cap) : (Instr.sliceAt 23 (.slice (some ⟨b, off, none⟩) len cap) (some (.int .i64 (k : Int))) none none).run Try.prog w = .ok (.slice (some ⟨b, off + k, none⟩) (len - k) (cap - k)) w := by
  have i1 : (k : Int) ≤ (len : Int) := by omega
  have i2 : (len : Int) ≤ (cap : Int) := by omega
  have i3 : ¬ (cap = k) := by omega
  have hz : (Try.prog.info? 5).map (·.size) = some 1 := by
    obtain ⟨i0, hi, hz0, hz1, hz2⟩ := info_parts info5
    simp [hi, hz1]
  simp [go_sem, i1, i2, i3, add_plain]
theorem Has.back {w : World} {b off len cap : Nat} {l : List Int} (h : Has w (some ⟨b, off, none⟩) len cap l) (k : Nat) (hk : k ≤ len) : Has w (some ⟨b, off + k, none⟩) (len - k) (cap - k) (l.drop k) := by
  have hl := h.hlen
  have hc := h.le
  refine ⟨by simp; omega, by omega, Nat.le_trans (Nat.sub_le _ _) h.capb, (fun h => by cases h), fun hp => ?_, fun x hx => h.bytes x (List.mem_of_mem_drop hx)⟩
  obtain ⟨b', off', e1, e2, e3⟩ := h.cells (by omega)
  cases e1
  refine ⟨b, off + k, rfl, e2, fun i hi => ?_⟩
  rw [Nat.add_assoc, e3 (k + i) (by omega)]
  simp [List.getD, List.getElem?_drop]
section
variable {w : World} {y : Nat} {r : RM} {I : Nat → Prop} {vF vD vS : Value} {K : Nat}
set_option maxHeartbeats 8000000 in
set_option maxRecDepth 100000 in
theorem rwrite_any (h : Rk w y r I vF vD vS) (hw : Rw2 r K) (hK : K ≤ 100000) (s : ByteArray) (n : Int) {ab : Option Addr} {lb cb : Nat} {B : List Int} (hB : Has w ab lb cb B) (hlb : lb ≤ 4096) : Calls Try.prog 49 #[ptr y, .string s, .int .i64 n, .slice ab lb cb] w (RRes w y (Ry y I vF) (K + 1)) := by
  have hD : r.D.length ≤ 1000000 := by have := hw.d; omega
  replace hB := hide hB
  go_enter Try.func49, Try.ntmps49
  go_wp2_with fail
  refine (rfind_any h hD s).mono ?_
  rintro e w1 ⟨hw1, ⟨f, hf, rfl⟩ | ⟨q, hq, rfl⟩⟩
  · replace hw1 := hw1.symm; subst hw1
    obtain ⟨c0, c1, c2, c3, c4, c5, c6⟩ := h.cs
    obtain ⟨g, of, cF, p, eF, hp, hpm, z1, z2, eo, gcur, hgb⟩ := h.at hf
    obtain ⟨aN, nN, cN, lN, eN, HN, hnN, _⟩ := (h.fl p hpm).1
    have hFl := hw.f
    have i2 : (f : Int) < (r.F.length : Int) := by omega
    have i3 : (0 : Int) ≤ (f : Int) := by omega
    rw [eN] at z1
    replace h := hide h
    clear eo hgb hp eN z2
    subst eF
    by_cases hn0 : n < 0
    · clear HN
      go_wp2_with fail
      go_ret
      exact rres_same h.out hw _
    · by_cases hn1 : (nN : Int) < n
      · clear HN
        go_wp2_with fail
        go_ret
        exact rres_same h.out hw _
      · obtain ⟨m, rfl⟩ : ∃ m : Nat, n = (m : Int) := ⟨n.toNat, by omega⟩
        have hm : m ≤ nN := by omega
        have BA : Below w.heap.size w (w.alloc (.cells #[] 5)) := (Below.refl _ w).alloc (Nat.le_refl _) _
        have O1 := hide (owns_empty w)
        have HA := hide ((HN.front m hm).kept BA (Nat.le_refl _))
        have rh := run_h (w.alloc (.cells #[] 5)) aN nN cN m (Nat.le_trans hm HN.le)
        have hZ : Hid (w.heap.size ≤ (w.alloc (.cells #[] 5)).heap.size) := BA.size
        have hby : Hid (∀ x ∈ lN.take m ++ B, 0 ≤ x ∧ x ≤ 255) := fun x hx => by
          rcases List.mem_append.1 hx with hx | hx
          · exact HN.bytes x (List.mem_of_mem_take hx)
          · exact hB.out.bytes x hx
        have hlm : Hid ((lN.take m).length = m) := by
          show (lN.take m).length = m
          rw [List.length_take]
          have := HN.hlen
          omega
        replace BA := hide BA
        replace HN := hide HN
        by_cases hs : m + lb < nN
        · have j1 : ((m : Int) + (lb : Int)) < (nN : Int) := by omega
          obtain ⟨ml, hml⟩ : ∃ ml, ml = m + lb := ⟨_, rfl⟩
          have hmb : ml ≤ 4198400 := by omega
          obtain ⟨bN, oN, eaN, _, _⟩ := HN.out.cells (by omega)
          subst eaN
          have ro := fun wx : World => run_lo wx bN oN nN cN ml (by omega) HN.out.le (by have := HN.out.le; omega)
          have j2 : (ml : Int) < (nN : Int) := by omega
          have HBk := hide (HN.out.back ml (by omega))
          have hby2 : Hid (∀ x ∈ (lN.take m ++ B) ++ lN.drop ml, 0 ≤ x ∧ x ≤ 255) := fun x hx => by
            rcases List.mem_append.1 hx with hx | hx
            · exact hby.out x hx
            · exact HN.out.bytes x (List.mem_of_mem_drop hx)
          replace hml := hide hml
          clear hs j1
          go_wp2_with (first
            | (at_builtin; refine wpList_app rfl (.tmp 38) (.tmp 41) rfl w.heap.size _ 0 [] rfl O1.out _ _ _ _ rfl HA.out (by omega) hZ.out ?_
               intro v8 w3 O8 G8
               rw [Nat.zero_add, List.nil_append] at O8
               have B3 := hide (BA.out.grown G8 hZ.out (fun q e => (O1.out.lt q e).1))
               have HB3 := hide (hB.out.kept B3.out (Nat.le_refl _))
               replace O8 := hide O8
               clear G8)
            | (at_builtin; refine wpList_app rfl (.tmp 42) (.tmp 43) rfl w.heap.size _ m _ rfl O8.out _ _ _ _ rfl HB3.out (by omega) B3.out.size ?_
               rw [← hml.out]
               intro v9 w4 O9 G9
               have B4 := hide (B3.out.grown G9 B3.out.size (fun q e => (O8.out.lt q e).1))
               have HB4 := hide (HBk.out.kept B4.out (Nat.le_refl _))
               obtain ⟨a9, c9, e9, H9⟩ := has_of_owns O9 hby.out
               subst e9
               replace O9 := hide O9
               replace H9 := hide H9
               clear G9)
            | (at_builtin; refine wpList_app rfl (.tmp 50) (.tmp 54) rfl w.heap.size _ ml _ rfl O9.out _ _ _ _ rfl HB4.out (by omega) B4.out.size ?_
               intro v10 w5 O10 G10
               have B5 := hide (B4.out.grown G10 B4.out.size (fun q e => (O9.out.lt q e).1))
               have L5 : Hid (∀ k, v10.ownBlock = some k → w.heap.size ≤ k ∧ k < w5.heap.size) := fun k hk => O10.lt k hk
               obtain ⟨a10, c10, e10, H10⟩ := has_of_owns O10 hby2.out
               subst e10
               replace H10 := hide H10
               clear G10 O10))
          refine (rset_any (h.out.below B5.out) hw hK hf H10.out (by omega) (fun hp k hk => ⟨(L5.out k hk).2, fun e => ?_, fun e => ?_⟩)).mono ?_
          · have := (L5.out k hk).1
            have := h.out.yb.lt
            omega
          · have := (L5.out k hk).1
            have := (h.out.ow.lt k e).2
            omega
          · rintro e w6 hres
            have fin := hide (hres.one B5.out (fun x hx => (L5.out x hx.2).1))
            obtain ⟨qq, r', R', rfl, _⟩ := hres
            go_wp2_with fail
            go_ret
            exact fin.out
        · have j1 : ¬ (((m : Int) + (lb : Int)) < (nN : Int)) := by omega
          obtain ⟨ml, hml⟩ : ∃ ml, ml = m + lb := ⟨_, rfl⟩
          have j2 : ¬ ((ml : Int) < (nN : Int)) := by omega
          have hmb : ml ≤ 4198400 := by omega
          replace hml := hide hml
          clear hs j1
          go_wp2_with (first
            | (at_builtin; refine wpList_app rfl (.tmp 38) (.tmp 41) rfl w.heap.size _ 0 [] rfl O1.out _ _ _ _ rfl HA.out (by omega) hZ.out ?_
               intro v8 w3 O8 G8
               rw [Nat.zero_add, List.nil_append] at O8
               have B3 := hide (BA.out.grown G8 hZ.out (fun q e => (O1.out.lt q e).1))
               have HB3 := hide (hB.out.kept B3.out (Nat.le_refl _))
               replace O8 := hide O8
               clear G8)
            | (at_builtin; refine wpList_app rfl (.tmp 42) (.tmp 43) rfl w.heap.size _ m _ rfl O8.out _ _ _ _ rfl HB3.out (by omega) B3.out.size ?_
               rw [← hml.out]
               intro v9 w4 O9 G9
               have B4 := hide (B3.out.grown G9 B3.out.size (fun q e => (O8.out.lt q e).1))
               have L5 : Hid (∀ k, v9.ownBlock = some k → w.heap.size ≤ k ∧ k < w4.heap.size) := fun k hk => O9.lt k hk
               obtain ⟨a9, c9, e9, H9⟩ := has_of_owns O9 hby.out
               subst e9
               replace H9 := hide H9
               clear G9 O9))
          refine (rset_any (h.out.below B4.out) hw hK hf H9.out (by omega) (fun hp k hk => ⟨(L5.out k hk).2, fun e => ?_, fun e => ?_⟩)).mono ?_
          · have := (L5.out k hk).1
            have := h.out.yb.lt
            omega
          · have := (L5.out k hk).1
            have := (h.out.ow.lt k e).2
            omega
          · rintro e w6 hres
            have fin := hide (hres.one B4.out (fun x hx => (L5.out x hx.2).1))
            obtain ⟨qq, r', R', rfl, _⟩ := hres
            go_wp2_with fail
            go_ret
            exact fin.out
  · replace hw1 := hw1.symm; subst hw1
    have q1 : (q != 0) = true := by simpa using hq
    have q2 : (q == 0) = false := by simpa using hq
    replace hq := hide hq
    replace h := hide h
    go_wp2_with fail
    go_ret
    exact rres_same h.out hw _
set_option maxHeartbeats 4000000 in
set_option maxRecDepth 100000 in
theorem rappend_any (h : Rk w y r I vF vD vS) (hw : Rw2 r K) (hK : K ≤ 100000) (s : ByteArray) {ab : Option Addr} {lb cb : Nat} {B : List Int} (hB : Has w ab lb cb B) (hlb : lb ≤ 4096) : Calls Try.prog 48 #[ptr y, .string s, .slice ab lb cb] w (RRes w y (Ry y I vF) (K + 1)) := by
  have hD : r.D.length ≤ 1000000 := by have := hw.d; omega
  replace hB := hide hB
  go_enter Try.func48, Try.ntmps48
  go_wp2_with fail
  refine (rfind_any h hD s).mono ?_
  rintro e w1 ⟨hw1, ⟨f, hf, rfl⟩ | ⟨q, hq, rfl⟩⟩
  · replace hw1 := hw1.symm; subst hw1
    obtain ⟨c0, c1, c2, c3, c4, c5, c6⟩ := h.cs
    obtain ⟨g, of, cF, p, eF, hp, hpm, z1, z2, eo, gcur, hgb⟩ := h.at hf
    obtain ⟨aN, nN, cN, lN, eN, HN, hnN, _⟩ := (h.fl p hpm).1
    have hFl := hw.f
    have i2 : (f : Int) < (r.F.length : Int) := by omega
    have i3 : (0 : Int) ≤ (f : Int) := by omega
    rw [eN] at z1
    replace h := hide h
    clear eo hgb hp eN z2 HN
    subst eF
    go_wp2_with fail
    refine (rwrite_any h.out hw hK s _ hB.out hlb).mono ?_
    rintro e w6 hres
    have fin := hide hres
    obtain ⟨qq, r', R', rfl, _⟩ := hres
    go_wp2_with fail
    go_ret
    exact fin.out
  · replace hw1 := hw1.symm; subst hw1
    have q1 : (q != 0) = true := by simpa using hq
    have q2 : (q == 0) = false := by simpa using hq
    replace hq := hide hq
    replace h := hide h
    go_wp2_with fail
    go_ret
    exact rres_same h.out hw _
end
end Go.Proofs.Ytgbijkdfhkkieaa
