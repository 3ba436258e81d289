/-
  formOf.
-/
import Derived.Test.YtmddkinecplooaaDoorXD
namespace Go.Proofs.YtmddkinecplooaaDoor
open Go.RowKit
set_option linter.unusedVariables false
set_option linter.unusedSimpArgs false

set_option maxHeartbeats 1000000 in
theorem formOf_any (x a b : Nat) (w : World) (hx : x < 18446744073709551616) (ha : a ≤ 64) (hb : b ≤ 64) (hT : Tab w) :
    Calls Tryd.prog 52 #[.int .u64 (x : Int), .agg #[.int .i64 (a : Int), .int .i64 (b : Int)]] w fun e w' => e = .returned (.agg #[.int .i64 ((dM a b x : Nat) : Int), .int .i64 ((dA a b x : Nat) : Int), .int .i64 ((dB a b x : Nat) : Int)]) ∧ Below w.heap.size w w' := by
  have X0 := Bx.new w 81 #[.int .i64 (a : Int), .int .i64 (b : Int)]
  have B0 : Below w.heap.size w (w.alloc (.cells #[.int .i64 (a : Int), .int .i64 (b : Int)] 81)) := (Below.refl _ w).alloc (Nat.le_refl _) _
  have Y0 := Bx.new_at (w := w.alloc (.cells #[.int .i64 (a : Int), .int .i64 (b : Int)] 81)) (g := w.heap.size + 1) (by simp) 102 #[.int .i64 0, .int .i64 0, .int .i64 0]
  have B1 := hide (B0.alloc B0.size (.cells #[.int .i64 0, .int .i64 0, .int .i64 0] 102))
  have X1 := hide (X0.alloc (.cells #[.int .i64 0, .int .i64 0, .int .i64 0] 102))
  by_cases h0 : x = 0
  · subst h0
    have e1 : dM a b 0 = 0 := by simp [dM]
    have e2 : dA a b 0 = a := by simp [dA]
    have e3 : dB a b 0 = b := by simp [dB]
    rw [e1, e2, e3]
    have X3 := (Y0.set3 (.int .i64 0) (.int .i64 (a : Int)) (.int .i64 (b : Int))).st3
    obtain ⟨p0, p1, p2, p3, p4, p5, p6, p7⟩ := Y0.st3
    have o0 := X3.c0
    have o1 := X3.c1
    have o2 := X3.c2
    clear X3
    simp only [show ((0 : Nat) : Int) = 0 from rfl]
    go_enter Tryd.func52, Tryd.ntmps52
    go_wp2_with fail
    refine bodyPost_ret (v := .agg #[.int .i64 0, .int .i64 (a : Int), .int .i64 (b : Int)]) (by simp [results, Tryd.f52, go_sem, o0, o1, o2]) rfl ?_
    exact ⟨rfl, B0.alloc B0.size _⟩
  · have NO := hide (noughts_any x _ (by omega) hx (hT.below (B0.alloc B0.size (.cells #[.int .i64 0, .int .i64 0, .int .i64 0] 102))))
    have i0 : ¬ (x : Int) = 0 := by omega
    replace Y0 := hide Y0
    clear hT X0 B0
    by_cases hin : inW a b x
    · have e1 : dM a b x = 2 := by simp [dM, h0, hin]
      have e2 : dA a b x = a := by simp [dA, h0, hin]
      have e3 : dB a b x = b := by simp [dB, h0, hin]
      rw [e1, e2, e3]
      obtain ⟨hi1, hi2⟩ := hin
      clear e1 e2 e3
      generalize lz x = A at *
      generalize tz x = B at *
      have d1 : (a : Int) ≤ (A : Int) := by omega
      have d2 : (b : Int) ≤ (B : Int) := by omega
      go_enter Tryd.func52, Tryd.ntmps52
      go_wp2_with fail
      refine NO.out.mono ?_
      rintro e w2 ⟨rfl, b2⟩
      have X2 := hide ((X1.out.below b2).alloc (.cells #[.int .i64 (A : Int), .int .i64 (B : Int)] 81))
      have Y2 := hide ((Y0.out.below b2).alloc (.cells #[.int .i64 (A : Int), .int .i64 (B : Int)] 81))
      have B2 := B1.out.trans (b2.mono B1.out.size)
      have B3 := hide (B2.alloc B2.size (.cells #[.int .i64 (A : Int), .int .i64 (B : Int)] 81))
      have b4 := hide (below_set3 (g := w.heap.size + 1) B3.out (by omega) (.int .i64 2) (.int .i64 (a : Int)) (.int .i64 (b : Int)))
      have X3 := (Y2.out.set3 (.int .i64 2) (.int .i64 (a : Int)) (.int .i64 (b : Int))).st3
      obtain ⟨p0, p1, p2, p3, p4, p5, p6, p7⟩ := Y2.out.st3
      have o0 := X3.c0
      have o1 := X3.c1
      have o2 := X3.c2
      have q0 := X2.out.st2.c0
      have q1 := X2.out.st2.c1
      clear X3 NO B1 X1 Y0 b2 B2
      go_wp2_with fail
      refine bodyPost_ret (v := .agg #[.int .i64 2, .int .i64 (a : Int), .int .i64 (b : Int)]) (by simp [results, Tryd.f52, go_sem, o0, o1, o2]) rfl ?_
      exact ⟨rfl, b4.out⟩
    · have e1 : dM a b x = 3 := by simp [dM, h0, hin]
      have e2 : dA a b x = lz x := by simp [dA, h0, hin]
      have e3 : dB a b x = tz x := by simp [dB, h0, hin]
      rw [e1, e2, e3]
      have hin2 : ¬ a ≤ lz x ∨ (a ≤ lz x ∧ ¬ b ≤ tz x) := by unfold inW at hin; omega
      clear e1 e2 e3 hin
      have hlz := lz_le x
      have htz := lz_tz (by omega) hx
      generalize lz x = A at *
      generalize tz x = B at *
      rcases hin2 with hi | ⟨hi1, hi2⟩
      · have d1 : ¬ (a : Int) ≤ (A : Int) := by omega
        go_enter Tryd.func52, Tryd.ntmps52
        go_wp2_with fail
        refine NO.out.mono ?_
        rintro e w2 ⟨rfl, b2⟩
        have X2 := hide ((X1.out.below b2).alloc (.cells #[.int .i64 (A : Int), .int .i64 (B : Int)] 81))
        have Y2 := hide ((Y0.out.below b2).alloc (.cells #[.int .i64 (A : Int), .int .i64 (B : Int)] 81))
        have B2 := B1.out.trans (b2.mono B1.out.size)
        have B3 := hide (B2.alloc B2.size (.cells #[.int .i64 (A : Int), .int .i64 (B : Int)] 81))
        have b4 := hide (below_set3 (g := w.heap.size + 1) B3.out (by omega) (.int .i64 3) (.int .i64 (A : Int)) (.int .i64 (B : Int)))
        have X3 := (Y2.out.set3 (.int .i64 3) (.int .i64 (A : Int)) (.int .i64 (B : Int))).st3
        obtain ⟨p0, p1, p2, p3, p4, p5, p6, p7⟩ := Y2.out.st3
        have o0 := X3.c0
        have o1 := X3.c1
        have o2 := X3.c2
        have q0 := X2.out.st2.c0
        have q1 := X2.out.st2.c1
        clear X3 NO B1 X1 Y0 b2 B2
        go_wp2_with fail
        refine bodyPost_ret (v := .agg #[.int .i64 3, .int .i64 (A : Int), .int .i64 (B : Int)]) (by simp [results, Tryd.f52, go_sem, o0, o1, o2]) rfl ?_
        exact ⟨rfl, b4.out⟩
      · have d1 : (a : Int) ≤ (A : Int) := by omega
        have d2 : ¬ (b : Int) ≤ (B : Int) := by omega
        go_enter Tryd.func52, Tryd.ntmps52
        go_wp2_with fail
        refine NO.out.mono ?_
        rintro e w2 ⟨rfl, b2⟩
        have X2 := hide ((X1.out.below b2).alloc (.cells #[.int .i64 (A : Int), .int .i64 (B : Int)] 81))
        have Y2 := hide ((Y0.out.below b2).alloc (.cells #[.int .i64 (A : Int), .int .i64 (B : Int)] 81))
        have B2 := B1.out.trans (b2.mono B1.out.size)
        have B3 := hide (B2.alloc B2.size (.cells #[.int .i64 (A : Int), .int .i64 (B : Int)] 81))
        have b4 := hide (below_set3 (g := w.heap.size + 1) B3.out (by omega) (.int .i64 3) (.int .i64 (A : Int)) (.int .i64 (B : Int)))
        have X3 := (Y2.out.set3 (.int .i64 3) (.int .i64 (A : Int)) (.int .i64 (B : Int))).st3
        obtain ⟨p0, p1, p2, p3, p4, p5, p6, p7⟩ := Y2.out.st3
        have o0 := X3.c0
        have o1 := X3.c1
        have o2 := X3.c2
        have q0 := X2.out.st2.c0
        have q1 := X2.out.st2.c1
        clear X3 NO B1 X1 Y0 b2 B2
        go_wp2_with fail
        refine bodyPost_ret (v := .agg #[.int .i64 3, .int .i64 (A : Int), .int .i64 (B : Int)]) (by simp [results, Tryd.f52, go_sem, o0, o1, o2]) rfl ?_
        exact ⟨rfl, b4.out⟩
end Go.Proofs.YtmddkinecplooaaDoor
