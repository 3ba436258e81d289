/-
  works.
-/
import Derived.Test.YtlmpndmceiihaaaV
namespace Go.Proofs.Ytlmpndmceiihaaa
open Go.RowKit Go.Shelf Go.Lib
set_option linter.unusedVariables false
set_option linter.unusedSimpArgs false

def lit4 : Array Value := #[.string ⟨#[98]⟩, .string ⟨#[50]⟩, .string ⟨#[97]⟩, .string ⟨#[49]⟩, .string ⟨#[98]⟩, .string ⟨#[51]⟩, .string ⟨#[99]⟩, .string ⟨#[]⟩]
theorem has_lit4 (w : World) : HasB (w.alloc (.cells lit4 38)) (some ⟨w.heap.size, 0, none⟩) 4 4 [(sB, n2), (sA, n1), (sB, n3), (sC, ByteArray.empty)] := by
  refine ⟨rfl, Nat.le_refl _, by unfold maxLen; omega, (fun e => nomatch e), (fun _ => ⟨w.heap.size, 0, rfl, by simp, fun i hi => ?_⟩)⟩
  have hc (k : Nat) : (w.alloc (.cells lit4 38)).cell? ⟨w.heap.size, k, none⟩ = lit4[k]? := cell_of_row _ _ _ _ _ _ (heap_alloc_new w (.cells lit4 38))
  rcases (show i = 0 ∨ i = 1 ∨ i = 2 ∨ i = 3 by omega) with rfl | rfl | rfl | rfl
  · exact ⟨hc 0, hc 1⟩
  · exact ⟨hc 2, hc 3⟩
  · exact ⟨hc 4, hc 5⟩
  · exact ⟨hc 6, hc 7⟩
theorem get_two : getB [(sA, n1), (sB, n3)] sB = n3 := by decide +kernel
set_option maxHeartbeats 2000000 in
theorem works_any (w : World) : Calls Try.prog 4 #[] w fun e w' => e = .returned (.bool true) ∧ Below w.heap.size w w' := by
  have r1 := hide (sort_four _ _ _ (has_lit4 w))
  have B0 : Hid (Below w.heap.size w (w.alloc (.cells lit4 38))) := (Below.refl _ w).alloc (Nat.le_refl _) _
  have e1 : (ByteArray.toList tAB == [97, 61, 49, 44, 98, 61, 51]) = true := by decide +kernel
  have e2 : (ByteArray.toList n3 == [51]) = true := by decide +kernel
  go_enter Try.func4, Try.ntmps4
  go_wp2_with (first
    | (go_at_call 10; refine r1.out.mono ?_; rintro e W1 ⟨g, c1, rfl, H1, B1⟩
       have r2 := hide (text_two W1 _ c1 H1)
       replace H1 := hide H1
       replace B1 := hide B1)
    | (go_at_call 11; refine r2.out.mono ?_; rintro e W2 ⟨rfl, B2⟩
       have r3 := get_any W2 _ 2 c1 _ sB (H1.out.kept B2 (Nat.le_refl _))
       rw [get_two] at r3
       replace r3 := hide r3
       replace B2 := hide B2)
    | (go_at_call 12; refine r3.out.mono ?_; rintro e W3 ⟨rfl, B3⟩; replace B3 := hide B3))
  go_ret
  exact ⟨by first | rfl | simp [e1, e2], ((B0.out.trans (B1.out.mono B0.out.size)).trans (B2.out.mono (Nat.le_trans B0.out.size B1.out.size))).trans (B3.out.mono (Nat.le_trans (Nat.le_trans B0.out.size B1.out.size) B2.out.size))⟩
end Go.Proofs.Ytlmpndmceiihaaa
