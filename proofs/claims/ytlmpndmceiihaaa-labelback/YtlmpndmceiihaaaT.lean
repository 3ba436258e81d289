/-
  Sort of works' four labels.
-/
import Derived.Test.YtlmpndmceiihaaaS
namespace Go.Proofs.Ytlmpndmceiihaaa
open Go.RowKit Go.Shelf Go.Lib
set_option linter.unusedVariables false
set_option linter.unusedSimpArgs false

def sC : Str := ⟨#[99]⟩
theorem fil_four : filB [(sB, n2), (sA, n1), (sB, n3), (sC, ByteArray.empty)] = [(sB, n2), (sA, n1), (sB, n3)] := by decide +kernel
theorem err_two : errB [(sA, n1), (sB, n3)] = 0 := by decide +kernel
set_option maxHeartbeats 2000000 in
theorem sort_four (w : World) (a : Option Addr) (cap : Nat) (h : HasB w a 4 cap [(sB, n2), (sA, n1), (sB, n3), (sC, ByteArray.empty)]) :
    Calls Try.prog 10 #[.slice a 4 cap] w fun e w' => ∃ g cap', e = .returned (.tuple #[.slice (some ⟨g, 0, none⟩) 2 cap', .int .i64 0]) ∧ HasB w' (some ⟨g, 0, none⟩) 2 cap' [(sA, n1), (sB, n3)] ∧ Below w.heap.size w w' := by
  have r1 := filled_any w a 4 cap _ h (by omega)
  rw [fil_four] at r1
  replace r1 := hide r1
  clear h
  go_enter Try.func10, Try.ntmps10
  go_wp2_with (first
    | (go_at_call 20; refine r1.out.mono ?_; rintro e W1 ⟨v1, rfl, O1, B1⟩
       have r2 := hide (last_three W1 w.heap.size v1 O1)
       replace B1 := hide B1
       clear O1)
    | (go_at_call 19; refine r2.out.mono ?_; rintro e W2 ⟨g2, cap2, rfl, H2, B2⟩
       have r3 := check_any W2 _ 2 cap2 _ H2
       rw [err_two] at r3
       replace r3 := hide r3
       replace H2 := hide H2
       replace B2 := hide B2)
    | (go_at_call 13; refine r3.out.mono ?_; rintro e W3 ⟨rfl, B3⟩; replace B3 := hide B3))
  go_ret2
  exact ⟨g2, cap2, rfl, H2.out.kept B3.out (Nat.le_refl _), (B1.out.trans B2.out).trans (B3.out.mono (Nat.le_trans B1.out.size B2.out.size))⟩
end Go.Proofs.Ytlmpndmceiihaaa
