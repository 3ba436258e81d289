/-
  Make, Count of a pattern that may not be.
-/
import Derived.Test.YthgdfgkjaepchaaDoorEI
import Derived.Test.YthgdfgkjaepchaaDoorCL
namespace Go.Proofs.YthgdfgkjaepchaaDoor
open Go.RowKit
set_option linter.unusedVariables false
set_option linter.unusedSimpArgs false

set_option maxHeartbeats 2000000 in
set_option maxRecDepth 100000 in
theorem make_no (t : Tr) (P : Nat → Prop) (x : Value) (w : World) (T : TrV w P x t) (hf : ¬ fitT t) (hsz : szT t ≤ 4096) (hdp : dpT t ≤ 128) : Calls Tryd.prog 7 #[x] w fun e w' => e = .returned (.tuple #[.slice none 0 0, .int .i64 2]) ∧ Below w.heap.size w w' := by
  have H := St.start Nope w
  have hT : Hid (TrV w P x t) := T
  have CH := hide (fun w' T => check_no t P x w' T hf hsz hdp)
  obtain ⟨va, vn, vc, rfl⟩ := T.val
  clear T
  replace hf := hide hf
  go_enter Tryd.func7, Tryd.ntmps7
  go_wp2_with (first | ((with_reducible refine at_box 27 ?_); refine wl_box28 H rfl ?_; clear H; intro g1 w1 H q1 q2) | ((with_reducible refine at_load 27 ?_); refine wl_load28 0 H rfl rfl ?_))
  refine (CH.out _ (hT.out.kept (fun b _ hl => H.below.block b hl))).mono ?_
  rintro e w2 ⟨rfl, B2⟩
  replace H := H.call B2 (Nat.le_refl _)
  go_wp2_with fail
  go_ret2
  exact ⟨rfl, H.below⟩
set_option maxHeartbeats 2000000 in
set_option maxRecDepth 100000 in
theorem count_no (t : Tr) (P : Nat → Prop) (x : Value) (w : World) (T : TrV w P x t) (hf : ¬ fitT t) (hsz : szT t ≤ 4096) (hdp : dpT t ≤ 128) : Calls Tryd.prog 9 #[x] w fun e w' => e = .returned (.tuple #[.int .i64 0, .int .i64 2]) ∧ Below w.heap.size w w' := by
  have H := St.start Nope w
  have hT : Hid (TrV w P x t) := T
  have CH := hide (fun w' T => check_no t P x w' T hf hsz hdp)
  obtain ⟨va, vn, vc, rfl⟩ := T.val
  clear T
  replace hf := hide hf
  go_enter Tryd.func9, Tryd.ntmps9
  go_wp2_with (first | ((with_reducible refine at_box 27 ?_); refine wl_box28 H rfl ?_; clear H; intro g1 w1 H q1 q2) | ((with_reducible refine at_load 27 ?_); refine wl_load28 0 H rfl rfl ?_))
  refine (CH.out _ (hT.out.kept (fun b _ hl => H.below.block b hl))).mono ?_
  rintro e w2 ⟨rfl, B2⟩
  replace H := H.call B2 (Nat.le_refl _)
  go_wp2_with fail
  go_ret2
  exact ⟨rfl, H.below⟩
end Go.Proofs.YthgdfgkjaepchaaDoor
