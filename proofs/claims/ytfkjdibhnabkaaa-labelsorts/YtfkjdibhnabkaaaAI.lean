/-
  SortStableFunc of labels, however many, of which only this is said: that it ends, and leaves labels.
-/
import Derived.Test.YtfkjdibhnabkaaaAH
namespace Go.Proofs.Ytfkjdibhnabkaaa
open Go.RowKit Go.Shelf Go.Lib
set_option linter.unusedVariables false
set_option linter.unusedSimpArgs false

theorem RowS.holds {w : World} {g n : Nat} (h : RowS w g n) : ∃ L : List Lab, L.length = n ∧ Sort.HoldsK encL 2 w g 0 L.toArray := by
  let Q : Nat → Lab := fun i => if hi : i < n then Classical.choose (h.at i hi) else noLab
  have hQ : ∀ i, i < n → w.cell? ⟨g, i * 2, none⟩ = some (.string (Q i).1) ∧ w.cell? ⟨g, i * 2 + 1, none⟩ = some (.string (Q i).2) := by
    intro i hi
    have := Classical.choose_spec (h.at i hi)
    simp only [Q, hi, dif_pos]
    exact ⟨this.1, this.2.1⟩
  refine ⟨(List.range n).map Q, by simp, ?_⟩
  intro j hj
  rw [Sort.size_flatK, List.size_toArray, List.length_map, List.length_range] at hj
  rw [Sort.get_flatK _ _ _ _ (by simpa using hj)]
  have hi : j / 2 < n := by omega
  rw [getB! _ _ (by simpa using hi)]
  have e : ((List.range n).map Q).getD (j / 2) noLab = Q (j / 2) := by simp [List.getD, hi]
  rw [e]
  refine ⟨?_, by rw [Nat.zero_add]; exact (h.2 j (by omega)).2⟩
  have h5 := hQ (j / 2) hi
  rcases Nat.mod_two_eq_zero_or_one j with h6 | h6
  · rw [h6, show 0 + j = j / 2 * 2 by omega]; exact h5.1
  · rw [h6, show 0 + j = j / 2 * 2 + 1 by omega]; exact h5.2
theorem rowS_of_holds {w : World} {g : Nat} {d : Array Lab} (h : Sort.HoldsK encL 2 w g 0 d) (hg : g < w.heap.size) : RowS w g d.size := by
  refine ⟨hg, fun j hj => ?_⟩
  have h1 := h j (by rw [Sort.size_flatK]; omega)
  rw [Sort.get_flatK _ _ _ _ (by omega), Nat.zero_add] at h1
  refine ⟨?_, h1.2⟩
  rcases Nat.mod_two_eq_zero_or_one j with h6 | h6
  · rw [h6] at h1; exact ⟨_, h1.1⟩
  · rw [h6] at h1; exact ⟨_, h1.1⟩

theorem ins_row (w : World) (g n cap base a b : Nat) (h : RowS w g n) (hg : base ≤ g) (hn : n ≤ 1000) (hab : a ≤ b) (hb : b ≤ n) :
    Calls Try.prog 44 #[.slice (some ⟨g, 0, none⟩) n cap, .int .i64 (a : Int), .int .i64 (b : Int), .func (.func 33) #[] #[]] w fun e w' => e = .returned (.tuple #[]) ∧ RowS w' g n ∧ Below base w w' := by
  obtain ⟨L, hL, hH⟩ := h.holds
  have hs : L.toArray.size = n := by simpa using hL
  have hi := insert_any g cap a b L.toArray w hH h.1 hab (by omega) (by omega)
  rw [hs] at hi
  refine hi.mono ?_
  rintro e w' ⟨rfl, m, os, rfl⟩
  have hp := (Sort.insertionSort_holds (lt := ltOf cmpN) swo_cmpN L.toArray a b hab (by omega)).1.1
  have h2 := rowS_of_holds (sortWorldK_holds (n := m) L.toArray (Sort.insertionSort (ltOf cmpN) L.toArray a b) os hH hp h.1) (Nat.lt_of_lt_of_le h.1 (sortWorldK_below (n := m) (base := 0) _ os (Nat.zero_le _) h.1).size)
  rw [hp, hs] at h2
  exact ⟨rfl, h2, sortWorldK_below _ os hg h.1⟩

set_option maxHeartbeats 8000000 in
theorem stable_row (w : World) (g n cap base : Nat) (h : RowS w g n) (hg : base ≤ g) (hn : n ≤ 1000) :
    Calls Try.prog 41 #[.slice (some ⟨g, 0, none⟩) n cap, .int .i64 (n : Int), .func (.func 33) #[] #[]] w fun e w' => e = .returned (.tuple #[]) ∧ RowS w' g n ∧ Below base w w' := by
  replace h := hide h
  have SA := hide (sym_any g n cap base hg hn)
  have hn' : (n : Int) ≤ 1000 := by omega
  go_enter Try.func41, Try.ntmps41
  go_wp2_with fail
  go_loopw [7, 8] (fun aa bb wr => ∃ A B : Nat, A ≤ n ∧ B = A + 20 ∧ aa = .int .i64 (A : Int) ∧ bb = .int .i64 (B : Int) ∧ Hid (RowS wr g n) ∧ Hid (Below base w wr)) (fun aa _ _ => n - (intOf aa).toNat)
  case atStart => exact ⟨0, 20, Nat.zero_le _, rfl, rfl, rfl, h, Below.refl _ _⟩
  case round =>
    clear h
    obtain ⟨A, B, hA, hAB, rfl, rfl, hR, hB⟩ := hrel
    by_cases hb : B ≤ n
    · have i1 : (B : Int) ≤ (n : Int) := by omega
      obtain ⟨C, hC⟩ : ∃ C, B + 20 = C := ⟨_, rfl⟩
      have e1 : (B : Int) + 20 = (C : Int) := by omega
      have IN := hide (ins_row wr g n cap base A B hR.out hg hn (by omega) hb)
      have hCB : Hid (C = B + 20 ∧ A < B) := ⟨hC.symm, by omega⟩
      clear hC hAB
      go_wp2_with fail
      refine IN.out.mono ?_
      rintro e w2 ⟨rfl, R2, B2⟩
      replace R2 := hide R2
      replace B2 := hide (hB.out.trans B2)
      go_wp2_with fail
      go_roundw
      case rel => exact ⟨B, C, hb, hCB.out.1, rfl, rfl, R2, B2⟩
      case measure => have := hCB.out.2; simp [intOf]; omega
    · have i1 : ¬ (B : Int) ≤ (n : Int) := by omega
      have IN := hide (ins_row wr g n cap base A n hR.out hg hn hA (Nat.le_refl _))
      clear hAB
      go_wp2_with fail
      refine IN.out.mono ?_
      rintro e w2 ⟨rfl, R2, B2⟩
      replace R2 := hide R2
      replace B2 := hide (hB.out.trans B2)
      clear IN hR hB
      go_wp2_with fail
      go_loopw [6, 7, 8, 9] (fun ss aa bb mm wr => ∃ S : Nat, 0 < S ∧ S ≤ 2000 ∧ ss = .int .i64 (S : Int) ∧ Hid (RowS wr g n) ∧ Hid (Below base w wr)) (fun ss _ _ _ _ => n - (intOf ss).toNat)
      case atStart => exact ⟨20, by omega, by omega, rfl, R2, B2⟩
      case round =>
        clear R2 B2
        obtain ⟨S, hS, hS2, rfl, hR, hB⟩ := hrel
        by_cases hSn : S < n
        · have i2 : (S : Int) < (n : Int) := by omega
          obtain ⟨T, hT⟩ : ∃ T, 2 * S = T := ⟨_, rfl⟩
          have eT : 2 * (S : Int) = (T : Int) := by omega
          have eT2 : (S : Int) * 2 = (T : Int) := by omega
          have hT2 : T ≤ 2000 ∧ S < T := by omega
          go_wp2_with fail
          go_loopw [7, 8] (fun aa bb wr => ∃ A B : Nat, A ≤ n ∧ B = A + T ∧ aa = .int .i64 (A : Int) ∧ bb = .int .i64 (B : Int) ∧ Hid (RowS wr g n) ∧ Hid (Below base w wr)) (fun aa _ _ => n - (intOf aa).toNat)
          case atStart => exact ⟨0, T, Nat.zero_le _, by omega, rfl, rfl, hR, hB⟩
          case round =>
            clear hR hB
            obtain ⟨A', B', hA', hAB', rfl, rfl, hR, hB⟩ := hrel
            obtain ⟨M, hM⟩ : ∃ M, A' + S = M := ⟨_, rfl⟩
            have eM : (A' : Int) + (S : Int) = (M : Int) := by omega
            by_cases hb' : B' ≤ n
            · have i3 : (B' : Int) ≤ (n : Int) := by omega
              obtain ⟨C, hC⟩ : ∃ C, B' + T = C := ⟨_, rfl⟩
              have e1 : (B' : Int) + (T : Int) = (C : Int) := by omega
              have SY := hide (SA.out n wr A' M B' hR.out (by omega) (by omega) hb' (by omega))
              have hCB : Hid (C = B' + T ∧ A' < B') := ⟨hC.symm, by omega⟩
              clear hC hAB' hM hT
              go_wp2_with fail
              refine SY.out.mono ?_
              rintro e w3 ⟨rfl, R3, B3⟩
              replace R3 := hide R3
              replace B3 := hide (hB.out.trans B3)
              go_wp2_with fail
              go_roundw
              case rel => exact ⟨B', C, hb', hCB.out.1, rfl, rfl, R3, B3⟩
              case measure => have := hCB.out.2; simp [intOf]; omega
            · have i3 : ¬ (B' : Int) ≤ (n : Int) := by omega
              by_cases hMn : M < n
              · have i4 : (M : Int) < (n : Int) := by omega
                have SY := hide (SA.out n wr A' M n hR.out (by omega) hMn (Nat.le_refl _) (by omega))
                clear hAB' hM hT
                go_wp2_with fail
                refine SY.out.mono ?_
                rintro e w3 ⟨rfl, R3, B3⟩
                replace R3 := hide R3
                replace B3 := hide (hB.out.trans B3)
                go_wp2_with fail
                go_roundw
                case rel => exact ⟨T, by omega, hT2.1, rfl, R3, B3⟩
                case measure => have := hT2.2; simp [intOf]; omega
              · have i4 : ¬ (M : Int) < (n : Int) := by omega
                clear hAB' hM hT
                go_wp2_with fail
                go_roundw
                case rel => exact ⟨T, by omega, hT2.1, rfl, hR, hB⟩
                case measure => have := hT2.2; simp [intOf]; omega
        · have i2 : ¬ (S : Int) < (n : Int) := by omega
          go_wp2_with fail
          go_end0
          exact ⟨rfl, hR.out, hB.out⟩

theorem sortN_row (w : World) (g n cap base : Nat) (h : RowS w g n) (hg : base ≤ g) (hn : n ≤ 1000) :
    Calls Try.prog 32 #[.slice (some ⟨g, 0, none⟩) n cap, .func (.func 33) #[] #[]] w fun e w' => e = .returned (.tuple #[]) ∧ RowS w' g n ∧ Below base w w' := by
  have hs := hide (stable_row w g n cap base h hg hn)
  clear h
  go_enter Try.func32, Try.ntmps32
  go_wp2_with fail
  refine hs.out.mono ?_
  rintro e W2 ⟨rfl, R2, B2⟩
  replace R2 := hide R2
  replace B2 := hide B2
  go_wp2_with fail
  go_end0
  exact ⟨rfl, R2.out, B2.out⟩
end Go.Proofs.Ytfkjdibhnabkaaa
