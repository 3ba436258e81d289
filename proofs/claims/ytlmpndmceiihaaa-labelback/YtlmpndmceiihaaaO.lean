/-
  lastOfEach's two functions; the insertion sort by the shelf's contract; SortStableFunc of fewer than 20.
-/
import Derived.Test.YtlmpndmceiihaaaM
import Derived.Shelf.SlSortCmp.InsertionK
import Derived.Ground.SlsfProg
namespace Go.Proofs.Ytlmpndmceiihaaa
open Go.RowKit Go.Shelf Go.Lib
set_option linter.unusedVariables false
set_option linter.unusedSimpArgs false

theorem byName_any (x y : Lab) (w : World) : Calls Try.prog 32 #[.agg #[.string x.1, .string x.2], .agg #[.string y.1, .string y.2]] w fun e w' => e = .returned (.int .i64 (s3 x.1 y.1)) ∧ w' = (w.alloc (.cells #[.string x.1, .string x.2] 38)).alloc (.cells #[.string y.1, .string y.2] 38) := by
  obtain ⟨x0, x1⟩ := x
  obtain ⟨y0, y1⟩ := y
  go_enter Try.func32, Try.ntmps32
  go_wp2_with (go_at_call 33; refine (ahead_any _ _ _).mono ?_; rintro e w' ⟨rfl, hw⟩; subst hw)
  go_ret
  exact ⟨rfl, rfl⟩
theorem sameName_any (x y : Lab) (w : World) : Calls Try.prog 35 #[.agg #[.string x.1, .string x.2], .agg #[.string y.1, .string y.2]] w fun e w' => e = .returned (.bool (decide (x.1 = y.1))) ∧ w' = (w.alloc (.cells #[.string x.1, .string x.2] 38)).alloc (.cells #[.string y.1, .string y.2] 38) := by
  obtain ⟨x0, x1⟩ := x
  obtain ⟨y0, y1⟩ := y
  by_cases he : x0 = y0
  · subst he
    go_enter Try.func35, Try.ntmps35
    go_wp2
    go_ret
    exact ⟨by simp, rfl⟩
  · have he2 : (ByteArray.toList x0 == ByteArray.toList y0) = false := by
      simp only [beq_eq_false_iff_ne]
      exact fun e => he ((str_ext _ _).1 e)
    rw [show decide (((x0, x1) : Lab).1 = ((y0, y1) : Lab).1) = false by simpa using he]
    clear he
    go_enter Try.func35, Try.ntmps35
    go_wp2
    go_ret
    exact ⟨by first | rfl | simp, rfl⟩
shelf_lay_g SlLaysF0.n20 Slsf 20 at Try 49 as Try.insertLab
theorem byName_lays (blk off size : Nat) (w : World) : CmpLays Try.prog 32 #[] encL 2 (fun x y => s3 x.1 y.1) blk off size w := by
  intro m os dk hs x y
  refine (byName_any x y _).mono ?_
  rintro e w' ⟨rfl, hw⟩
  refine ⟨rfl, 0, #[.cells #[.string x.1, .string x.2] 38, .cells #[.string y.1, .string y.2] 38], ?_⟩
  subst hw
  rw [Sort.alloc_eq_grow, Sort.alloc_eq_grow, Sort.grow_grow]
  rfl
end Go.Proofs.Ytlmpndmceiihaaa
