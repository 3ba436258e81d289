/-
  lastOfEach, and Sort, of labels of different names, fewer than 20.
-/
import Derived.Test.YtfkjdibhnabkaaaZ
import Derived.Test.YtfkjdibhnabkaaaT
namespace Go.Proofs.Ytfkjdibhnabkaaa
open Go.RowKit Go.Shelf Go.Lib
set_option linter.unusedVariables false
set_option linter.unusedSimpArgs false

theorem nub_next {R : List Lab} (h : Nub R) (i : Nat) (hi : i + 1 < R.length) : (R.getD (i + 1) noLab).1 ≠ (R.getD i noLab).1 := by
  have := (List.pairwise_iff_getElem.1 h) i (i + 1) (by omega) hi (by omega)
  simp only [List.getD, List.getElem?_eq_getElem hi, List.getElem?_eq_getElem (show i < R.length by omega), Option.getD_some]
  exact this.symm

set_option maxHeartbeats 2000000 in
theorem last_apart (w : World) (base : Nat) (v : Value) (F : List Lab) (h : w.ownsRow base 39 2 v F.length (flat F)) (hn : Nub F) (hlt : F.length < 20) (hbs : base ≤ w.heap.size) :
    Calls Try.prog 23 #[v] w fun e w' => ∃ a cap R, e = .returned (.slice a R.length cap) ∧ HasB w' a R.length cap R ∧ R.Perm F ∧ Asc R ∧ Below base w w' := by
  by_cases h0 : F.length = 0
  · obtain rfl : F = [] := List.eq_nil_of_length_eq_zero h0
    obtain ⟨a, cap, rfl, H⟩ := hasB_of_owns h
    have r3 := hide (compact_apart w a 0 cap [] H (fun i hi => by omega))
    replace H := hide H
    simp only [List.length_nil]
    clear h
    go_enter Try.func23, Try.ntmps23
    go_wp2_with fail
    refine (reverse_none _ _ _).mono ?_
    rintro e W1 ⟨rfl, rfl⟩
    go_wp2_with fail
    refine (sortN_none _ _ _).mono ?_
    rintro e W2 ⟨rfl, rfl⟩
    go_wp2_with fail
    refine r3.out.mono ?_
    rintro e W3 ⟨rfl, B3⟩
    go_wp2_with fail
    go_ret
    exact ⟨a, cap, [], rfl, H.out.kept B3 (Nat.le_refl _), List.Perm.refl _, List.Pairwise.nil, B3.mono hbs⟩
  · obtain ⟨g, cap, rfl, hb, hg, hc, hm, _, hH⟩ := holdsK_of_owns h (by omega)
    obtain ⟨R, hR, lR, pR, aR⟩ := sort_asc F hn
    have e1 : F.toArray.size = F.length := by simp
    have e2 : F.toArray.reverse.size = F.length := by simp
    have r1 := reverse_arr g 0 cap F.toArray w hH (by omega)
    rw [e1] at r1
    replace r1 := hide r1
    have hRd : Hid (∀ W : World, Sort.HoldsK encL 2 W g 0 F.toArray.reverse → g < W.heap.size → Calls Try.prog 32 #[.slice (some ⟨g, 0, none⟩) F.length cap, .func (.func 33) #[] #[]] W fun e w' => e = .returned (.tuple #[]) ∧ ∃ n os, w' = sortWorldK encL 2 W g 0 n R.toArray os) := fun W h1 h2 => by
      have := sortN_any g cap F.toArray.reverse W h1 h2 (by omega)
      rwa [e2, hR] at this
    have hcp : Hid (∀ W : World, HasB W (some ⟨g, 0, none⟩) R.length cap R → Calls Try.prog 34 #[.slice (some ⟨g, 0, none⟩) F.length cap, .func (.func 35) #[] #[]] W fun e w' => e = .returned (.slice (some ⟨g, 0, none⟩) F.length cap) ∧ Below W.heap.size W w') := fun W h1 => by
      rw [lR] at h1
      exact compact_apart W _ F.length cap R h1 (fun i hi => nub_next (asc_nub aR) i (by omega))
    replace hR := hide hR
    replace pR := hide pR
    replace aR := hide aR
    have lR' := hide lR
    have hsz : Hid (R.toArray.size = F.toArray.reverse.size) := by show _ = _; rw [e2, List.size_toArray]; exact lR
    have hcR : Hid (R.length ≤ cap) := by show _ ≤ _; omega
    clear h hn e1 e2 lR
    generalize F.length = n at *
    go_enter Try.func23, Try.ntmps23
    go_wp2_with fail
    refine r1.out.mono ?_
    rintro e W1 ⟨rfl, m1, hW1⟩
    have B1 : Below base w W1 := by rw [hW1]; exact below_putRowK w _ hb
    have H1 : Sort.HoldsK encL 2 W1 g 0 F.toArray.reverse := by rw [hW1]; exact Sort.holdsK_putRowK _ _ _ _ _ F.toArray _ (show Sort.HoldsK encL 2 (Sort.ahead w m1) g 0 _ from hH) (by simp)
    have g1 : g < W1.heap.size := Nat.lt_of_lt_of_le hg B1.size
    replace B1 := hide B1
    replace H1 := hide H1
    clear hW1 r1
    go_wp2_with fail
    refine (hRd.out W1 H1.out g1).mono ?_
    rintro e W2 ⟨rfl, m2, os2, hW2⟩
    have B2 : Below base W1 W2 := by rw [hW2]; exact sortWorldK_below _ _ hb g1
    have H2 : Sort.HoldsK encL 2 W2 g 0 R.toArray := by rw [hW2]; exact sortWorldK_holds F.toArray.reverse _ _ H1.out hsz.out g1
    have g2 : g < W2.heap.size := Nat.lt_of_lt_of_le g1 B2.size
    have G2 := hide (hasB_of_holdsK H2 g2 hcR.out hm)
    replace B2 := hide B2
    clear hW2 H2 hRd H1
    go_wp2_with fail
    refine (hcp.out W2 G2.out).mono ?_
    rintro e W3 ⟨rfl, B3⟩
    replace B3 := hide B3
    go_wp2_with fail
    go_ret
    exact ⟨some ⟨g, 0, none⟩, cap, R, by rw [lR'.out]; rfl, G2.out.kept B3.out (Nat.le_refl _), pR.out, aR.out, (B1.out.trans B2.out).trans (B3.out.mono (by omega))⟩

set_option maxHeartbeats 2000000 in
theorem sort_apart (w : World) (a : Option Addr) (len cap : Nat) (L : List Lab) (h : HasB w a len cap L) (hl : len ≤ 1000) (hn : Nub (filB L)) (hlt : (filB L).length < 20) :
    Calls Try.prog 13 #[.slice a len cap] w fun e w' => ∃ R, R.Perm (filB L) ∧ Asc R ∧ ((chkB R = true ∧ ∃ a' cap', e = .returned (.tuple #[.slice a' R.length cap', .int .i64 0]) ∧ HasB w' a' R.length cap' R) ∨ (chkB R = false ∧ e = .returned (.tuple #[.slice none 0 0, .int .i64 40]))) ∧ Below w.heap.size w w' := by
  have r1 := hide (filled_any w a len cap _ h hl)
  clear h
  replace hn := hide hn
  go_enter Try.func13, Try.ntmps13
  go_wp2_with fail
  refine r1.out.mono ?_
  rintro e W1 ⟨v1, rfl, O1, B1⟩
  have r2 := hide (last_apart W1 w.heap.size v1 (filB L) O1 hn.out hlt B1.size)
  replace B1 := hide B1
  clear O1 r1
  go_wp2_with fail
  refine r2.out.mono ?_
  rintro e W2 ⟨a2, cap2, R, rfl, H2, pR, aR, B2⟩
  have r3 := check_any W2 _ R.length cap2 R H2
  replace H2 := hide H2
  replace pR := hide pR
  replace aR := hide aR
  have B2' := hide (B1.out.trans B2)
  clear r2 B1 B2
  by_cases hc : chkB R = true
  · rw [errB_yes hc] at r3
    replace r3 := hide r3
    go_wp2_with fail
    refine r3.out.mono ?_
    rintro e W3 ⟨rfl, B3⟩
    replace B3 := hide B3
    go_wp2_with fail
    go_ret2
    exact ⟨R, pR.out, aR.out, .inl ⟨hc, a2, cap2, rfl, H2.out.kept B3.out (Nat.le_refl _)⟩, B2'.out.trans (B3.out.mono B2'.out.size)⟩
  · replace hc : chkB R = false := by simpa using hc
    rw [errB_no hc] at r3
    replace r3 := hide r3
    go_wp2_with fail
    refine r3.out.mono ?_
    rintro e W3 ⟨rfl, B3⟩
    replace B3 := hide B3
    go_wp2_with fail
    go_ret2
    exact ⟨R, pR.out, aR.out, .inr ⟨hc, rfl⟩, B2'.out.trans (B3.out.mono B2'.out.size)⟩
end Go.Proofs.Ytfkjdibhnabkaaa
