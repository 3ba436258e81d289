/-
  LabelOrders' walk.
-/
import Derived.Test.YtfkjdibhnabkaaaX
namespace Go.Proofs.Ytfkjdibhnabkaaa
open Go.RowKit Go.Shelf Go.Lib
set_option linter.unusedVariables false
set_option linter.unusedSimpArgs false

theorem drewN_below (w : World) (m B : Nat) : Below B w (w.drewN m) := ⟨rfl, rfl, rfl, Nat.le_refl _, fun _ _ => rfl⟩
def Three (w : World) (A B C : List Lab) (b0 b1 b2 : Option Addr) (c0 c1 c2 : Nat) (W : World) : Prop := (HasB W b0 A.length c0 A ∧ HasB W b1 B.length c1 B ∧ HasB W b2 C.length c2 C) ∧ Below w.heap.size w W
theorem Three.kept {w : World} {A B C : List Lab} {b0 b1 b2 : Option Addr} {c0 c1 c2 : Nat} {W W' : World} (h : Three w A B C b0 b1 b2 c0 c1 c2 W) (b : Below W.heap.size W W') : Three w A B C b0 b1 b2 c0 c1 c2 W' :=
  ⟨⟨h.1.1.kept b (Nat.le_refl _), h.1.2.1.kept b (Nat.le_refl _), h.1.2.2.kept b (Nat.le_refl _)⟩, h.2.trans (b.mono h.2.size)⟩
set_option maxRecDepth 100000 in
set_option maxHeartbeats 4000000 in
theorem orders_any (w : World) (a0 a1 a2 : Option Addr) (l0 k0 l1 k1 l2 k2 : Nat) (L M N : List Lab) (h0 : HasB w a0 l0 k0 L) (h1 : HasB w a1 l1 k1 M) (h2 : HasB w a2 l2 k2 N) :
    Calls Try.prog 4 #[.slice a0 l0 k0, .slice a1 l1 k1, .slice a2 l2 k2] w fun e w' => e = .returned (.bool true) ∧ Below w.heap.size w w' := by
  replace h0 := hide h0
  replace h1 := hide h1
  replace h2 := hide h2
  obtain ⟨x, hx⟩ : ∃ x, c3 (fewB L) (fewB M) = x := ⟨_, rfl⟩
  obtain ⟨y, hy⟩ : ∃ y, c3 (fewB M) (fewB N) = y := ⟨_, rfl⟩
  obtain ⟨z, hz⟩ : ∃ z, c3 (fewB L) (fewB N) = z := ⟨_, rfl⟩
  have ht : c3 (fewB M) (fewB L) = -x := by rw [tw_c3.turn, hx]
  have x1 := tw_c3.low (fewB L) (fewB M)
  have x2 := tw_c3.high (fewB L) (fewB M)
  have y1 := tw_c3.low (fewB M) (fewB N)
  have y2 := tw_c3.high (fewB M) (fewB N)
  have z1 := tw_c3.low (fewB L) (fewB N)
  have z2 := tw_c3.high (fewB L) (fewB N)
  have on := tw_c3.on (fewB L) (fewB M) (fewB N)
  have st := fun p q r => tw_c3.strict (x := fewB L) (y := fewB M) (z := fewB N) p q r
  have sm : decide (fewB L = fewB M) = (x == 0) := by
    rw [← hx, Bool.eq_iff_iff, decide_eq_true_iff, beq_iff_eq]; exact (tw_c3.same _ _).symm
  rw [hx] at x1 x2 on st
  rw [hy] at y1 y2 on st
  rw [hz] at z1 z2 on st
  have hf0 : Hid (∀ W, Below w.heap.size w W → Calls Try.prog 7 #[.slice a0 l0 k0] W (Labs W (fewB L))) := fun W b => few_any W a0 l0 k0 L (h0.out.kept b (Nat.le_refl _))
  have hf1 : Hid (∀ W, Below w.heap.size w W → Calls Try.prog 7 #[.slice a1 l1 k1] W (Labs W (fewB M))) := fun W b => few_any W a1 l1 k1 M (h1.out.kept b (Nat.le_refl _))
  have hf2 : Hid (∀ W, Below w.heap.size w W → Calls Try.prog 7 #[.slice a2 l2 k2] W (Labs W (fewB N))) := fun W b => few_any W a2 l2 k2 N (h2.out.kept b (Nat.le_refl _))
  clear h0 h1 h2
  generalize fewB L = A at hx hz ht sm hf0
  generalize fewB M = B at hx hy ht sm hf1
  generalize fewB N = C at hy hz hf2
  replace hx := hide hx
  replace hy := hide hy
  replace hz := hide hz
  replace ht := hide ht
  replace sm := hide sm
  replace on := hide on
  replace st := hide st
  have hneg : wrap64 (- -x) = x := by unfold wrap64; omega
  have hq0 : (x != x) = false := by simp
  have hq1 : (((x == 0)) != ((x == 0))) = false := by simp
  go_enter Try.func4, Try.ntmps4
  go_wp2_with fail
  refine (works_any _).mono ?_
  rintro e W1 ⟨rfl, B1⟩
  replace B1 := hide B1
  go_wp2_with fail
  refine (hf0.out W1 B1.out).mono ?_
  rintro e W2 ⟨b0, c0, rfl, G0, T2⟩
  have B2 := hide (B1.out.trans (T2.mono B1.out.size))
  replace G0 := hide G0
  clear T2 B1 hf0
  go_wp2_with fail
  refine (hf1.out W2 B2.out).mono ?_
  rintro e W3 ⟨b1, c1, rfl, G1, T3⟩
  have B3 := hide (B2.out.trans (T3.mono B2.out.size))
  have G3 := hide (And.intro (G0.out.kept T3 (Nat.le_refl _)) G1)
  clear T3 G1 G0 B2 hf1
  go_wp2_with fail
  refine (hf2.out W3 B3.out).mono ?_
  rintro e W4 ⟨b2, c2, rfl, G2, T4⟩
  have R4 : Hid (Three w A B C b0 b1 b2 c0 c1 c2 W4) := ⟨⟨G3.out.1.kept T4 (Nat.le_refl _), G3.out.2.kept T4 (Nat.le_refl _), G2⟩, B3.out.trans (T4.mono B3.out.size)⟩
  clear T4 G2 G3 B3 hf2
  go_wp2_with fail
  refine (compare_any _ _ _ _ _ _ A B W4 R4.out.1.1 R4.out.1.2.1).mono ?_
  rintro e W5 ⟨rfl, T5⟩
  have R5 := hide (R4.out.kept T5)
  clear T5 R4
  rw [hx.out]
  go_wp2_with fail
  refine (compare_any _ _ _ _ _ _ B C W5 R5.out.1.2.1 R5.out.1.2.2).mono ?_
  rintro e W6 ⟨rfl, T6⟩
  have R6 := hide (R5.out.kept T6)
  clear T6 R5
  rw [hy.out]
  go_wp2_with fail
  refine (compare_any _ _ _ _ _ _ A C W6 R6.out.1.1 R6.out.1.2.2).mono ?_
  rintro e W7 ⟨rfl, T7⟩
  have R7 := hide (R6.out.kept T7)
  clear T7 R6
  rw [hz.out]
  go_wp2_with fail
  refine (compare_any _ _ _ _ _ _ B A W7 R7.out.1.2.1 R7.out.1.1).mono ?_
  rintro e W8 ⟨rfl, T8⟩
  have R8 := hide (R7.out.kept T8)
  clear T8 R7
  rw [ht.out]
  go_wp2_with fail
  refine (sameB_any W8 _ _ _ _ _ _ A B R8.out.1.1 R8.out.1.2.1).mono ?_
  rintro e W9 ⟨rfl, m9, hW9⟩
  have R9 := hide (R8.out.2.trans (drewN_below W8 m9 _))
  rw [← hW9] at R9
  clear hW9 R8
  rw [sm.out]
  rcases (show x = -1 ∨ x = 0 ∨ x = 1 by omega) with rfl | rfl | rfl <;> rcases (show y = -1 ∨ y = 0 ∨ y = 1 by omega) with rfl | rfl | rfl <;> rcases (show z = -1 ∨ z = 0 ∨ z = 1 by omega) with rfl | rfl | rfl <;> first
    | (exfalso; have := on.out (by omega) (by omega); omega)
    | (exfalso; have := st.out (by omega) (by omega) (by omega); omega)
    | (clear on st x1 x2 y1 y2 z1 z2 hneg hq0 hq1 hx hy hz ht sm
       go_wp2_with fail
       go_ret
       exact ⟨by first | rfl | simp, R9.out⟩)
end Go.Proofs.Ytfkjdibhnabkaaa
