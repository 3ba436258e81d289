/-
  The walk of the statement FrameWrites.
-/
import Derived.Test.YtbaclihlckfndaaDoorAJ
import Derived.Test.YtbaclihlckfndaaDoorX
namespace Go.Proofs.YtbaclihlckfndaaDoor
open Go.RowKit Go.Shelf
set_option linter.unusedVariables false

/-- Bytes and an error come out. -/
def Gives (w : World) (L : List Int) (er : Int) (e : Ending) (w' : World) : Prop := ∃ a n cap, e = .returned (.tuple #[.slice a n cap, .int .i64 er]) ∧ Has w' a n cap L ∧ Below w.heap.size w w'
theorem gives_refused {w w' : World} {er : Int} {e : Ending} (h : Refused w er e w') : Gives w [] er e w' := by
  obtain ⟨rfl, rfl⟩ := h
  exact ⟨none, 0, 0, rfl, has_nil _, Below.refl _ _⟩
/-- Write and the reference's Write give the same. -/
theorem writes_same (number : Int) (hx : -9223372036854775808 ≤ number ∧ number ≤ 9223372036854775807) (ls : List (List Int)) (hl : ls.length ≤ 12) :
    ∃ L er, (∀ w a cap, HasL w a ls.length cap ls → Tab w → Calls Tryd.prog 9 #[.int .i64 number, .slice a ls.length cap] w (Gives w L er)) ∧ ∀ w a cap, HasL w a ls.length cap ls → Calls Tryd.prog 10 #[.int .i64 number, .slice a ls.length cap] w (Gives w L er) := by
  by_cases hs : ∀ x ∈ ls, x.length ≤ 65536
  · by_cases hn : number < 0 ∨ 4294967295 < number ∨ 4294967296 < number + (needL ls : Nat)
    · exact ⟨[], 2, fun w a cap h _ => (write_arg w number hx a _ cap ls h hl hs hn).mono fun e w' h => gives_refused h, fun w a cap h => (rwrite_arg w number hx a _ cap ls h hl hs hn).mono fun e w' h => gives_refused h⟩
    · obtain ⟨k, rfl⟩ : ∃ k : Nat, number = (k : Int) := ⟨number.toNat, by omega⟩
      refine ⟨secs (cutAll k ls), 0, fun w a cap h ht => (write_any w k a _ cap ls h (by omega) hs (by omega) (by omega) ht).mono fun e w' h => h, fun w a cap h => (rwrite_ok w k a _ cap ls h hl hs (by omega) (by omega)).mono fun e w' h => h⟩
  · exact ⟨[], 3, fun w a cap h _ => (write_long w number a _ cap ls h hl hs).mono fun e w' h => gives_refused h, fun w a cap h => (rwrite_long w number a _ cap ls h hl hs).mono fun e w' h => gives_refused h⟩

set_option maxRecDepth 100000 in
set_option maxHeartbeats 2000000 in
theorem writes_walk (a0 : Int) (a1 : Option Addr) (len1 cap1 : Nat) (l1 : List (List Int)) (w : World) (ht : Tab w) (w0 : (Lit.int .i64 a0).wf = true) (w1 : HasL w a1 len1 cap1 l1) :
    Calls Tryd.prog 3 #[.int .i64 a0, .slice a1 len1 cap1] w fun e w' => e = .returned (.bool true) ∧ Below w.heap.size w w' := by
  have hp := ht.pos
  have hx0 := wf_i64 w0
  have hf1 := hide (few_any w a1 len1 cap1 l1 w1)
  have hfl := fewL_len l1
  have htw : Hid (∀ (W : World) (a : Option Addr) (cap : Nat), HasL W a (fewL l1).length cap (fewL l1) → Calls Tryd.prog 8 #[.slice a (fewL l1).length cap] W (Lists W (fewL l1))) := fun W a cap h => by
    have := few_any W a _ cap (fewL l1) h
    rwa [fewL_twice] at this
  generalize fewL l1 = fs at hf1 hfl htw
  obtain ⟨L, er, hW, hRW⟩ := writes_same a0 hx0 fs hfl
  replace hW := hide hW
  replace hRW := hide hRW
  have hN := hide (fun W a cap h => need_any W a fs.length cap fs h hfl)
  have hRN := hide (fun W a cap h => rneed_any W a fs.length cap fs h hfl)
  obtain ⟨x1, x2, hE⟩ : ∃ x1 x2, needE fs = (x1, x2) := ⟨_, _, rfl⟩
  rw [hE] at hN hRN
  replace ht := hide ht
  clear w1 hE
  go_enter Tryd.func3, Tryd.ntmps3
  go_wp2_with fail
  refine hf1.out.mono ?_
  rintro e W1 ⟨b1, c1, rfl, H1, B1⟩
  go_wp2_with fail
  refine (htw.out W1 b1 c1 H1).mono ?_
  rintro e W2 ⟨b2, c2, rfl, H2, B2⟩
  have T2 := B1.trans (B2.mono B1.size)
  go_wp2_with fail
  refine (hW.out W2 b2 c2 H2 (ht.out.kept T2 hp)).mono ?_
  rintro e W3 ⟨b3, n3, c3, rfl, H3, B3⟩
  have T3 := T2.trans (B3.mono T2.size)
  have H13 := (H1.kept B2 (Nat.le_refl _)).kept B3 (Nat.le_refl _)
  go_wp2_with fail
  refine (hRW.out W3 b1 c1 H13).mono ?_
  rintro e W4 ⟨b4, n4, c4, rfl, H4, B4⟩
  have T4 := T3.trans (B4.mono T3.size)
  have H14 := H13.kept B4 (Nat.le_refl _)
  have H34 := H3.kept B4 (Nat.le_refl _)
  go_wp2_with fail
  refine (htw.out W4 b1 c1 H14).mono ?_
  rintro e W5 ⟨b5, c5, rfl, H5, B5⟩
  have T5 := T4.trans (B5.mono T4.size)
  have H15 := H14.kept B5 (Nat.le_refl _)
  have H35 := H34.kept B5 (Nat.le_refl _)
  have H45 := H4.kept B5 (Nat.le_refl _)
  go_wp2_with fail
  refine (hN.out W5 b5 c5 H5).mono ?_
  rintro e W6 ⟨rfl, hW6⟩
  replace hW6 := hW6.symm
  subst hW6
  go_wp2_with fail
  refine (hRN.out W5 b1 c1 H15).mono ?_
  rintro e W7 ⟨rfl, hW7⟩
  replace hW7 := hW7.symm
  subst hW7
  have hsame := hide (same_yes W5 b3 b4 n3 n4 c3 c4 L L H35 H45 rfl)
  have hwk := hide (works_any W5 (ht.out.kept T5 hp))
  replace T5 := hide T5
  clear H1 H2 H3 H4 H5 B1 B2 B3 B4 B5 T2 T3 T4 H13 H14 H15 H34 H35 H45
  go_wp2_with (first
    | (go_at_call 13; refine hsame.out.mono ?_; rintro e W8 ⟨rfl, hW8⟩; replace hW8 := hW8.symm; subst hW8)
    | (go_at_call 14; refine hwk.out.mono ?_; rintro e W9 ⟨rfl, B9⟩; replace B9 := hide B9))
  go_ret
  exact ⟨rfl, T5.out.trans (B9.out.mono T5.out.size)⟩
end Go.Proofs.YtbaclihlckfndaaDoor
