/-
  The reference's Put, all of it.
-/
import Derived.Test.YtpopkoedeckfoaaDoorSK
namespace Go.Proofs.YtpopkoedeckfoaaDoor
open Go.RowKit
set_option linter.unusedVariables false
set_option linter.unusedSimpArgs false

theorem rputS {w : World} {base p : Nat} {v : Value} {M : List Bool} (h : RW w base p v M) {n L D t : Nat} (hs : OkS n L D) (ht : OkT n L (t : Int)) (hroom : M.length + 52 ≤ 524288) :
    Calls Tryd.prog 14 #[.pointer (some ⟨p, 0, none⟩), .agg #[.int .i64 (n : Int), .int .i64 (L : Int), .int .i64 (D : Int)], .int .i64 (t : Int)] w fun e w' =>
      e = .returned (.tuple #[.agg #[.int .i64 ((n + 1 : Nat) : Int), .int .i64 (t : Int), .int .i64 ((dl n L t : Nat) : Int)], .int .i64 0]) ∧ ∃ v' M', RW w' base p v' M' ∧ numB M' = numB M * 2 ^ cdN n L D t + cdX n L D t ∧ M'.length = M.length + cdN n L D t ∧ Did w w' base p v v' := by
  by_cases hn : n = 0
  · subst hn
    exact rputS0 h hs ht hroom
  · have := rputS1 h hn hs ht hroom
    rw [show dl n L t = t - L by unfold dl; rw [if_neg hn]]
    exact this

set_option maxHeartbeats 2000000 in
theorem rputS_no {w : World} {base p : Nat} {v : Value} {M : List Bool} (h : RW w base p v M) (n l d t : Int) (hno : (okSI n l d && okTI n l t) = false) :
    Calls Tryd.prog 14 #[.pointer (some ⟨p, 0, none⟩), .agg #[.int .i64 n, .int .i64 l, .int .i64 d], .int .i64 t] w fun e w' =>
      e = .returned (.tuple #[.agg #[.int .i64 0, .int .i64 0, .int .i64 0], .int .i64 60]) ∧ ∃ v', RW w' base p v' M ∧ Did w w' base p v v' := by
  have E1 := hide (RS.start h (.int .i64 n) (.int .i64 l) (.int .i64 d))
  have R := hide (fun w => right_any n l d w)
  have hz36 := zero36
  have s0 := E1.out.s.c0
  have s1 := E1.out.s.c1
  have s2 := E1.out.s.c2
  clear h
  cases hsi : okSI n l d <;> rw [hsi] at R hno
  · go_enter Tryd.func14, Tryd.ntmps14
    go_wp2_with fail
    refine (R.out _).mono ?_
    rintro e w2 ⟨rfl, b2⟩
    have E2 := hide (E1.out.below b2)
    clear s0 s1 s2 E1 R b2
    have X2 := hide (E2.out.r.set (.int .i64 0) (.int .i64 0) (.int .i64 0))
    have FIN := hide (rdone3 E2.out (Nat.le_refl _) (.int .i64 0) (.int .i64 0) (.int .i64 0))
    obtain ⟨r0, r1, r2, r3, r4, r5, r6⟩ := E2.out.r
    have r7 := E2.out.r.o1
    have r8 := E2.out.r.o2
    have o0 := X2.out.c0
    have o1 := X2.out.c1
    have o2 := X2.out.c2
    go_wp2_with fail
    refine bodyPost_ret (v := .tuple #[.agg #[.int .i64 0, .int .i64 0, .int .i64 0], .int .i64 60]) (by simp [results, Tryd.f14, go_sem, o0, o1, o2]) rfl ?_
    exact ⟨rfl, v, FIN.out.1, FIN.out.2⟩
  · have hcs : t < 0 ∨ (¬ t < 0 ∧ 35184372088832 < t) ∨ (¬ t < 0 ∧ ¬ 35184372088832 < t ∧ 0 < n ∧ t ≤ l) := by
      simp [okSI, isCnt, isTim] at hsi
      simp [okTI, isTim] at hno
      omega
    clear hsi hno
    rcases hcs with k1 | ⟨k1, k2⟩ | ⟨k1, k2, k3, k4⟩
    · go_enter Tryd.func14, Tryd.ntmps14
      go_wp2_with fail
      refine (R.out _).mono ?_
      rintro e w2 ⟨rfl, b2⟩
      have E2 := hide (E1.out.below b2)
      clear s0 s1 s2 E1 R b2
      have s0 := E2.out.s.c0
      have s1 := E2.out.s.c1
      have s2 := E2.out.s.c2
      have X2 := hide (E2.out.r.set (.int .i64 0) (.int .i64 0) (.int .i64 0))
      have FIN := hide (rdone3 E2.out (Nat.le_refl _) (.int .i64 0) (.int .i64 0) (.int .i64 0))
      obtain ⟨r0, r1, r2, r3, r4, r5, r6⟩ := E2.out.r
      have r7 := E2.out.r.o1
      have r8 := E2.out.r.o2
      have o0 := X2.out.c0
      have o1 := X2.out.c1
      have o2 := X2.out.c2
      go_wp2_with fail
      refine bodyPost_ret (v := .tuple #[.agg #[.int .i64 0, .int .i64 0, .int .i64 0], .int .i64 60]) (by simp [results, Tryd.f14, go_sem, o0, o1, o2]) rfl ?_
      exact ⟨rfl, v, FIN.out.1, FIN.out.2⟩
    · go_enter Tryd.func14, Tryd.ntmps14
      go_wp2_with fail
      refine (R.out _).mono ?_
      rintro e w2 ⟨rfl, b2⟩
      have E2 := hide (E1.out.below b2)
      clear s0 s1 s2 E1 R b2
      have s0 := E2.out.s.c0
      have s1 := E2.out.s.c1
      have s2 := E2.out.s.c2
      have X2 := hide (E2.out.r.set (.int .i64 0) (.int .i64 0) (.int .i64 0))
      have FIN := hide (rdone3 E2.out (Nat.le_refl _) (.int .i64 0) (.int .i64 0) (.int .i64 0))
      obtain ⟨r0, r1, r2, r3, r4, r5, r6⟩ := E2.out.r
      have r7 := E2.out.r.o1
      have r8 := E2.out.r.o2
      have o0 := X2.out.c0
      have o1 := X2.out.c1
      have o2 := X2.out.c2
      go_wp2_with fail
      refine bodyPost_ret (v := .tuple #[.agg #[.int .i64 0, .int .i64 0, .int .i64 0], .int .i64 60]) (by simp [results, Tryd.f14, go_sem, o0, o1, o2]) rfl ?_
      exact ⟨rfl, v, FIN.out.1, FIN.out.2⟩
    · go_enter Tryd.func14, Tryd.ntmps14
      go_wp2_with fail
      refine (R.out _).mono ?_
      rintro e w2 ⟨rfl, b2⟩
      have E2 := hide (E1.out.below b2)
      clear s0 s1 s2 E1 R b2
      have s0 := E2.out.s.c0
      have s1 := E2.out.s.c1
      have s2 := E2.out.s.c2
      have X2 := hide (E2.out.r.set (.int .i64 0) (.int .i64 0) (.int .i64 0))
      have FIN := hide (rdone3 E2.out (Nat.le_refl _) (.int .i64 0) (.int .i64 0) (.int .i64 0))
      obtain ⟨r0, r1, r2, r3, r4, r5, r6⟩ := E2.out.r
      have r7 := E2.out.r.o1
      have r8 := E2.out.r.o2
      have o0 := X2.out.c0
      have o1 := X2.out.c1
      have o2 := X2.out.c2
      go_wp2_with fail
      refine bodyPost_ret (v := .tuple #[.agg #[.int .i64 0, .int .i64 0, .int .i64 0], .int .i64 60]) (by simp [results, Tryd.f14, go_sem, o0, o1, o2]) rfl ?_
      exact ⟨rfl, v, FIN.out.1, FIN.out.2⟩
end Go.Proofs.YtpopkoedeckfoaaDoor
