/-
  CompactFunc of labels, of which only this is said: that it ends, and leaves labels.
-/
import Derived.Test.YtfkjdibhnabkaaaAJ
namespace Go.Proofs.Ytfkjdibhnabkaaa
open Go.RowKit Go.Shelf Go.Lib
set_option linter.unusedVariables false
set_option linter.unusedSimpArgs false

theorem same_any (x y : Lab) : ∃ t : Bool, ∀ W, Calls Try.prog 35 #[.agg #[.string x.1, .string x.2], .agg #[.string y.1, .string y.2]] W fun e w' => e = .returned (.bool t) ∧ Below W.heap.size W w' := by
  refine ⟨decide (x.1 = y.1), fun W => (sameName_any x y W).mono ?_⟩
  rintro e w' ⟨rfl, rfl⟩
  exact ⟨rfl, ((Below.refl _ W).alloc (Nat.le_refl _) _).alloc (by simp) _⟩
theorem RowS.two2 {w : World} {g n : Nat} (h : RowS w g n) (p q : Nat) (hp : p < n) (hq : q < n) : ∃ x0 x1 y0 y1 : Str, ((w.cell? ⟨g, p * 2, none⟩ = some (.string x0) ∧ w.cell? ⟨g, p * 2 + 1, none⟩ = some (.string x1)) ∧ w.cell? ⟨g, q * 2, none⟩ = some (.string y0) ∧ w.cell? ⟨g, q * 2 + 1, none⟩ = some (.string y1)) := by
  obtain ⟨x, a0, a1, _⟩ := h.at p hp
  obtain ⟨y, b0, b1, _⟩ := h.at q hq
  exact ⟨x.1, x.2, y.1, y.2, ⟨a0, a1⟩, b0, b1⟩
theorem two_kept2 {w w' : World} {g p q : Nat} {x0 x1 y0 y1 : Str} (h : (w.cell? ⟨g, p * 2, none⟩ = some (.string x0) ∧ w.cell? ⟨g, p * 2 + 1, none⟩ = some (.string x1)) ∧ w.cell? ⟨g, q * 2, none⟩ = some (.string y0) ∧ w.cell? ⟨g, q * 2 + 1, none⟩ = some (.string y1)) (hb : Below w.heap.size w w') (hg : g < w.heap.size) :
    (w'.cell? ⟨g, p * 2, none⟩ = some (.string x0) ∧ w'.cell? ⟨g, p * 2 + 1, none⟩ = some (.string x1)) ∧ w'.cell? ⟨g, q * 2, none⟩ = some (.string y0) ∧ w'.cell? ⟨g, q * 2 + 1, none⟩ = some (.string y1) :=
  ⟨⟨(hb.cell (p := ⟨g, p * 2, none⟩) hg).trans h.1.1, (hb.cell (p := ⟨g, p * 2 + 1, none⟩) hg).trans h.1.2⟩, (hb.cell (p := ⟨g, q * 2, none⟩) hg).trans h.2.1, (hb.cell (p := ⟨g, q * 2 + 1, none⟩) hg).trans h.2.2⟩

theorem two_kept3 {w w' : World} {g p q : Nat} {x0 x1 y0 y1 : Str} (h : (w.cell? ⟨g, p, none⟩ = some (.string x0) ∧ w.cell? ⟨g, p + 1, none⟩ = some (.string x1)) ∧ w.cell? ⟨g, q, none⟩ = some (.string y0) ∧ w.cell? ⟨g, q + 1, none⟩ = some (.string y1)) (hb : Below w.heap.size w w') (hg : g < w.heap.size) :
    (w'.cell? ⟨g, p, none⟩ = some (.string x0) ∧ w'.cell? ⟨g, p + 1, none⟩ = some (.string x1)) ∧ w'.cell? ⟨g, q, none⟩ = some (.string y0) ∧ w'.cell? ⟨g, q + 1, none⟩ = some (.string y1) :=
  ⟨⟨(hb.cell (p := ⟨g, p, none⟩) hg).trans h.1.1, (hb.cell (p := ⟨g, p + 1, none⟩) hg).trans h.1.2⟩, (hb.cell (p := ⟨g, q, none⟩) hg).trans h.2.1, (hb.cell (p := ⟨g, q + 1, none⟩) hg).trans h.2.2⟩

set_option maxHeartbeats 4000000 in
theorem compact_row (w : World) (g n cap base : Nat) (h : RowS w g n) (hg : base ≤ g) (hn : n ≤ 1000) (hc : n ≤ cap) (hm : cap ≤ maxLen) :
    Calls Try.prog 34 #[.slice (some ⟨g, 0, none⟩) n cap, .func (.func 35) #[] #[]] w fun e w' => ∃ k, k ≤ n ∧ e = .returned (.slice (some ⟨g, 0, none⟩) k cap) ∧ RowS w' g n ∧ Below base w w' := by
  replace h := hide h
  unfold maxLen at hm
  by_cases h2 : n < 2
  · have i1 : (n : Int) < 2 := by omega
    go_enter Try.func34, Try.ntmps34
    go_wp2_with fail
    go_ret
    exact ⟨n, Nat.le_refl _, rfl, h.out, Below.refl _ _⟩
  · have i1 : ¬ ((n : Int) < 2) := by omega
    go_enter Try.func34, Try.ntmps34
    go_wp2_with fail
    go_loopw [5] (fun i wr => ∃ k : Nat, 1 ≤ k ∧ k ≤ n ∧ i = .int .i64 (k : Int) ∧ Hid (RowS wr g n) ∧ Hid (Below base w wr)) (fun i _ => n - (intOf i).toNat)
    case atStart => exact ⟨1, Nat.le_refl _, by omega, rfl, h, Below.refl _ w⟩
    case round =>
      clear h
      obtain ⟨k, hk1, hk, rfl, hR, hB⟩ := hrel
      by_cases hkl : k < n
      · obtain ⟨j, hkj⟩ : ∃ j, k = j + 1 := ⟨k - 1, by omega⟩
        have i2 : (k : Int) < n := by omega
        have i3 : (k : Int) - 1 = (j : Int) := by omega
        have i4 : (j : Int) < n := by omega
        have i5 := wrapN j (by omega)
        have i6 : (0 : Int) ≤ (k : Int) := by omega
        have i7 : (0 : Int) ≤ (j : Int) := by omega
        obtain ⟨x0, x1, y0, y1, hc4⟩ := hR.out.drew.two2 k j (by omega) (by omega)
        obtain ⟨t, ht⟩ := same_any (x0, x1) (y0, y1)
        simp only at ht
        replace ht := hide ht
        have hgw := hide hR.out.1
        have hkk : Hid (k = j + 1) := hkj
        clear hkj
        cases t with
        | false =>
          go_wp2_with fail
          go_region_held3 (fun w' => (w'.cell? ⟨g, k * 2, none⟩ = some (.string x0) ∧ w'.cell? ⟨g, k * 2 + 1, none⟩ = some (.string x1)) ∧ w'.cell? ⟨g, j * 2, none⟩ = some (.string y0) ∧ w'.cell? ⟨g, j * 2 + 1, none⟩ = some (.string y1)) (first | (exact hc4) | (exact E3)) (first
            | (go_at_call 35; refine (ht.out _).mono ?_; rintro e W3 ⟨rfl, hW3⟩
               have E3 := two_kept2 hc4 hW3 hgw.out
               have B3 := hide (hB.out.trans ((Below.ofdrew hW3).mono (by have := hgw.out; omega : base ≤ wr.heap.size)))
               have R3 := hide (hR.out.drew.below hW3 hgw.out)
               clear hW3))
          clear E3 hc4 ht
          go_wp2_with fail
          go_roundw
          case rel => exact ⟨k + 1, by omega, by omega, by go_num, R3, B3⟩
          case measure => simp [intOf]; omega
        | true =>
          go_wp2_with fail
          go_region_held3 (fun w' => (w'.cell? ⟨g, k * 2, none⟩ = some (.string x0) ∧ w'.cell? ⟨g, k * 2 + 1, none⟩ = some (.string x1)) ∧ w'.cell? ⟨g, j * 2, none⟩ = some (.string y0) ∧ w'.cell? ⟨g, j * 2 + 1, none⟩ = some (.string y1)) (first | (exact hc4) | (exact E3)) (first
            | (go_at_call 35; refine (ht.out _).mono ?_; rintro e W3 ⟨rfl, hW3⟩
               have E3 := two_kept2 hc4 hW3 hgw.out
               have B3 := hide (hB.out.trans ((Below.ofdrew hW3).mono (by have := hgw.out; omega : base ≤ wr.heap.size)))
               have R3 := hide (hR.out.drew.below hW3 hgw.out)
               clear hW3))
          clear E3 hc4 ht hR hB
          have hck : ¬ cap = k := by omega
          obtain ⟨n2, hn2⟩ : ∃ n2, n - k = n2 := ⟨_, rfl⟩
          have en2 : (n : Int) - (k : Int) = (n2 : Int) := by omega
          have hN2 : Hid (n = k + n2 ∧ k < n ∧ n ≤ 1000 ∧ 1 ≤ n2) := by show _ ∧ _; omega
          have n2b : n2 ≤ 1000 := by omega
          go_wp2_with fail
          go_loopw [5, 7] (fun kk k2 wr => ∃ K M : Nat, kk = .int .i64 (K : Int) ∧ k2 = .int .i64 (M : Int) ∧ k ≤ K ∧ 1 ≤ M ∧ M ≤ n2 ∧ K < k + M ∧ Hid (RowS wr g n) ∧ Hid (Below base w wr)) (fun _ k2 _ => n2 - (intOf k2).toNat)
          case atStart => exact ⟨k, 1, rfl, rfl, Nat.le_refl _, Nat.le_refl _, hN2.out.2.2.2, by omega, R3, B3⟩
          case round =>
            clear R3 B3 hgw hn2 en2
            obtain ⟨K, M, rfl, rfl, hK, hM, hMn, hKM, hR, hB⟩ := hrel
            have hKn : K < n := by have := hN2.out; omega
            by_cases hMl : M < n2
            · obtain ⟨J, hJ⟩ : ∃ J, M - 1 = J := ⟨_, rfl⟩
              have i2 : (M : Int) < (n2 : Int) := by omega
              have i3 : (M : Int) - 1 = (J : Int) := by omega
              have i4 : (J : Int) < (n2 : Int) := by omega
              have i5 := wrapN J (by omega)
              have i6 : (0 : Int) ≤ (M : Int) := by omega
              have i7 : (0 : Int) ≤ (J : Int) := by omega
              obtain ⟨x0, x1, y0, y1, hc4⟩ := hR.out.drew.two2 (k + M) (k + J) (by have := hN2.out; omega) (by have := hN2.out; omega)
              simp only [Nat.add_mul] at hc4
              obtain ⟨t, ht⟩ := same_any (x0, x1) (y0, y1)
              simp only at ht
              replace ht := hide ht
              have hgw := hide hR.out.1
              clear hJ
              cases t with
              | true =>
                go_wp2_with fail
                go_region_held3 (fun w' => (w'.cell? ⟨g, k * 2 + M * 2, none⟩ = some (.string x0) ∧ w'.cell? ⟨g, k * 2 + M * 2 + 1, none⟩ = some (.string x1)) ∧ w'.cell? ⟨g, k * 2 + J * 2, none⟩ = some (.string y0) ∧ w'.cell? ⟨g, k * 2 + J * 2 + 1, none⟩ = some (.string y1)) (first | (exact hc4) | (exact E3)) (first
                  | (go_at_call 35; refine (ht.out _).mono ?_; rintro e W3 ⟨rfl, hW3⟩
                     have E3 := two_kept3 hc4 hW3 hgw.out
                     have B3 := hide (hB.out.trans ((Below.ofdrew hW3).mono (by have := hgw.out; omega : base ≤ wr.heap.size)))
                     have R3 := hide (hR.out.drew.below hW3 hgw.out)
                     clear hW3))
                clear E3 hc4 ht
                go_wp2_with fail
                go_roundw
                case rel => exact ⟨K, M + 1, rfl, by go_num, hK, by omega, hMl, by omega, R3, B3⟩
                case measure => simp [intOf]; omega
              | false =>
                go_wp2_with fail
                go_region_held3 (fun w' => (w'.cell? ⟨g, k * 2 + M * 2, none⟩ = some (.string x0) ∧ w'.cell? ⟨g, k * 2 + M * 2 + 1, none⟩ = some (.string x1)) ∧ w'.cell? ⟨g, k * 2 + J * 2, none⟩ = some (.string y0) ∧ w'.cell? ⟨g, k * 2 + J * 2 + 1, none⟩ = some (.string y1)) (first | (exact hc4) | (exact E3)) (first
                  | (go_at_call 35; refine (ht.out _).mono ?_; rintro e W3 ⟨rfl, hW3⟩
                     have E3 := two_kept3 hc4 hW3 hgw.out
                     have B3 := hide (hB.out.trans ((Below.ofdrew hW3).mono (by have := hgw.out; omega : base ≤ wr.heap.size)))
                     have R3 := hide (hR.out.drew.below hW3 hgw.out)
                     clear hW3))
                clear hc4 ht
                obtain ⟨⟨z0, z1⟩, d0, d1, d2, d3⟩ := R3.out.at K hKn
                simp only at d0 d1
                have d1' : ∀ u, (W3.setCell ⟨g, K * 2, none⟩ u).cell? ⟨g, K * 2 + 1, none⟩ = some (.string z1) := fun u => (World.cell?_setCell_other _ _ _ _ (fun e' => by have := congrArg Addr.off e'; simp at this)).trans d1
                obtain ⟨⟨q0, q1⟩, -, -⟩ := E3
                have R4 := hide ((R3.out.set (K * 2) x0).set (K * 2 + 1) x1)
                have B4 := hide ((B3.out.setCell (p := ⟨g, K * 2, none⟩) hg (.string x0)).setCell (p := ⟨g, K * 2 + 1, none⟩) hg (.string x1))
                have j1 : (K : Int) < (n : Int) := by omega
                go_wp2_with fail
                go_roundw
                case rel => exact ⟨K + 1, M + 1, by go_num, by go_num, by omega, by omega, hMl, by omega, R4, B4⟩
                case measure => simp [intOf]; omega
            · obtain rfl : M = n2 := by omega
              have hcK : ¬ cap = K := by omega
              obtain ⟨w4, hclr, R4, B4⟩ := run_clear wr g n (n - K) (K * 2) (cap - K) hR.out (by omega) (by omega)
              replace B4 := hide (B4 base w hg hB.out)
              replace R4 := hide R4
              go_wp2_with fail
              go_ret
              exact ⟨K, by omega, rfl, R4.out, B4.out⟩
      · obtain rfl : k = n := by omega
        go_wp2_with fail
        go_ret
        exact ⟨k, Nat.le_refl _, rfl, hR.out, hB.out⟩
end Go.Proofs.Ytfkjdibhnabkaaa
