/-
  The walk of PostVoid.
-/
import Derived.Test.YthkfbdcocnhebaaL
namespace Go.Proofs.Ythkfbdcocnhebaa
open Go.RowKit
set_option linter.unusedVariables false
set_option linter.unusedSimpArgs false

set_option maxHeartbeats 8000000 in
set_option maxRecDepth 100000 in
theorem voidW (a0 : ByteArray) (a1 : Int) (w : World) : Calls Try.prog 7 #[.string a0, .int .u64 a1] w fun e w' => e = .returned (.bool true) ∧ Below w.heap.size w w' := by
  go_enter Try.func7, Try.ntmps7
  go_wp2_with fail
  refine (works_any w).mono ?_
  rintro e w1 ⟨rfl, BB⟩
  have hz := heap_alloc_new w1 (.cells #[.map none] 68)
  have B2 : Below w.heap.size w (w1.alloc (.cells #[.map none] 68)) := BB.alloc BB.size _
  obtain ⟨w2, hw2⟩ : ∃ w2, w1.alloc (.cells #[.map none] 68) = w2 := ⟨_, rfl⟩
  rw [hw2] at hz B2
  have N0 : NoIx w2 (.pointer none) := .inl rfl
  have NZ : NoIx w2 (.pointer (some ⟨w1.heap.size, 0, none⟩)) := .inr ⟨_, rfl, hz⟩
  replace B2 := hide B2
  replace N0 := hide N0
  replace NZ := hide NZ
  replace hw2 := hide hw2
  clear BB hz
  go_wp2_with fail
  rw [hw2.out]

  refine (void_no _ _ N0.out).mono ?_
  rintro e w9 ⟨rfl, rfl⟩
  go_wp2_with fail

  refine (void_no _ _ NZ.out).mono ?_
  rintro e w9 ⟨rfl, rfl⟩
  go_wp2_with fail

  refine (new_any _).mono ?_
  rintro e w3 ⟨p, m, rfl, hp, hm, Q, _, _⟩
  replace N0 := hide (N0.out.below Q)
  replace NZ := hide (NZ.out.below Q)
  replace B2 := hide (B2.out.trans (Q.mono B2.out.size))
  replace hp := hide hp
  clear Q hm
  go_wp2_with fail

  refine (void_made _ _ _ hp.out).mono ?_
  rintro e w9 ⟨rfl, rfl⟩
  go_wp2_with fail

  refine (put_no _ _ N0.out a0 a1).mono ?_
  rintro e w9 ⟨rfl, rfl⟩
  go_wp2_with fail

  refine (put_no _ _ NZ.out a0 a1).mono ?_
  rintro e w9 ⟨rfl, rfl⟩
  go_wp2_with fail

  refine (take_no _ _ N0.out a0 a1).mono ?_
  rintro e w9 ⟨rfl, rfl⟩
  go_wp2_with fail

  refine (take_no _ _ NZ.out a0 a1).mono ?_
  rintro e w9 ⟨rfl, rfl⟩
  go_wp2_with fail

  refine (list_no _ _ N0.out a0).mono ?_
  rintro e w9 ⟨rfl, rfl⟩
  go_wp2_with fail

  refine (list_no _ _ NZ.out a0).mono ?_
  rintro e w9 ⟨rfl, rfl⟩
  go_wp2_with fail

  refine (keys_no _ _ N0.out).mono ?_
  rintro e w9 ⟨rfl, rfl⟩
  go_wp2_with fail

  refine (keys_no _ _ NZ.out).mono ?_
  rintro e w9 ⟨rfl, rfl⟩
  go_wp2_with fail

  refine (size_no _ _ N0.out).mono ?_
  rintro e w9 ⟨rfl, rfl⟩
  go_wp2_with fail

  refine (size_no _ _ NZ.out).mono ?_
  rintro e w9 ⟨rfl, rfl⟩
  go_wp2_with fail

  go_ret
  exact ⟨rfl, B2.out⟩
end Go.Proofs.Ythkfbdcocnhebaa
