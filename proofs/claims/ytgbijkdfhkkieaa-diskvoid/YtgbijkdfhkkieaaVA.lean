/-
  A disk that no call made.
-/
import Derived.Test.YtgbijkdfhkkieaaZ
namespace Go.Proofs.Ytgbijkdfhkkieaa
open Go.RowKit Go.Maps Go.Shelf
set_option linter.unusedVariables false
set_option linter.unusedSimpArgs false
attribute [local go_sem] Oper.semAt_some

/-- No call made it: nil, or a plain one. -/
def Vd (w : World) (p : Value) : Prop := p = .pointer none ∨ ∃ z, p = ptr z ∧ z < w.heap.size ∧ w.cell? ⟨z, 3, none⟩ = some (.map none)
theorem Vd.below {w w' : World} {p : Value} (h : Vd w p) (hb : Below w.heap.size w w') : Vd w' p := by
  rcases h with h | ⟨z, h1, h2, h3⟩
  · exact .inl h
  · exact .inr ⟨z, h1, Nat.lt_of_lt_of_le h2 hb.size, (hb.cell (p := ⟨z, 3, none⟩) h2).trans h3⟩
theorem Vd.alloc {w : World} {p : Value} (h : Vd w p) (o : Obj) : Vd (w.alloc o) p := h.below ((Below.refl _ _).alloc (Nat.le_refl _) _)
theorem isMade_v {w : World} {p : Value} (h : Vd w p) : Calls Try.prog 33 #[p] w fun e w' => e = .returned (.bool false) ∧ w' = w := by
  rcases h with rfl | ⟨z, rfl, _, h⟩
  · exact isMade_nil w
  · exact isMade_void w z h
section
variable {w : World} {p : Value}
set_option maxHeartbeats 1000000
theorem check_v (h : Vd w p) (a : Option Addr) (n c : Nat) : Calls Try.prog 56 #[p, .slice a n c] w fun e w' => e = .returned (.int .i64 1) ∧ w' = w := by
  have I := hide (isMade_v h)
  go_enter Try.func56, Try.ntmps56
  go_wp2_with fail
  refine I.out.mono ?_
  rintro e w' ⟨rfl, hw⟩; replace hw := hw.symm; subst hw
  go_wp2_with fail
  go_ret
  exact ⟨rfl, rfl⟩
theorem begin_v (h : Vd w p) (a : Option Addr) (n c : Nat) : Calls Try.prog 43 #[p, .slice a n c] w fun e w' => e = .returned (.int .i64 1) ∧ w' = w := by
  have I := hide (check_v h a n c)
  go_enter Try.func43, Try.ntmps43
  go_wp2_with fail
  refine I.out.mono ?_
  rintro e w' ⟨rfl, hw⟩; replace hw := hw.symm; subst hw
  go_wp2_with fail
  go_ret
  exact ⟨rfl, rfl⟩
theorem beginWith_v (h : Vd w p) (s : ByteArray) : Calls Try.prog 40 #[p, .string s] w fun e w' => e = .returned (.tuple #[.pointer none, .int .i64 1]) ∧ Below w.heap.size w w' := by
  have I := hide (begin_v (h.alloc (.cells #[.string s] 9)) (some ⟨w.heap.size, 0, none⟩) 1 1)
  have B : Hid (Below w.heap.size w (w.alloc (.cells #[.string s] 9))) := (Below.refl _ w).alloc (Nat.le_refl _) _
  go_enter Try.func40, Try.ntmps40
  go_wp2_with fail
  refine I.out.mono ?_
  rintro e w' ⟨rfl, hw⟩; replace hw := hw.symm; subst hw
  go_wp2_with fail
  go_ret2
  exact ⟨rfl, B.out⟩
theorem create_v (h : Vd w p) (s : ByteArray) : Calls Try.prog 12 #[p, .string s] w fun e w' => e = .returned (.int .i64 1) ∧ Below w.heap.size w w' := by
  have I := hide (begin_v (h.alloc (.cells #[.string s] 9)) (some ⟨w.heap.size, 0, none⟩) 1 1)
  have B : Hid (Below w.heap.size w (w.alloc (.cells #[.string s] 9))) := (Below.refl _ w).alloc (Nat.le_refl _) _
  go_enter Try.func12, Try.ntmps12
  go_wp2_with fail
  refine I.out.mono ?_
  rintro e w' ⟨rfl, hw⟩; replace hw := hw.symm; subst hw
  go_wp2_with fail
  go_ret
  exact ⟨rfl, B.out⟩
theorem rename_v (h : Vd w p) (s t : ByteArray) : Calls Try.prog 31 #[p, .string s, .string t] w fun e w' => e = .returned (.int .i64 1) ∧ Below w.heap.size w w' := by
  have I := hide (begin_v (h.alloc (.cells #[.string s, .string t] 9)) (some ⟨w.heap.size, 0, none⟩) 2 2)
  have B : Hid (Below w.heap.size w (w.alloc (.cells #[.string s, .string t] 9))) := (Below.refl _ w).alloc (Nat.le_refl _) _
  go_enter Try.func31, Try.ntmps31
  go_wp2_with fail
  refine I.out.mono ?_
  rintro e w' ⟨rfl, hw⟩; replace hw := hw.symm; subst hw
  go_wp2_with fail
  go_ret
  exact ⟨rfl, B.out⟩
theorem read_v (h : Vd w p) (s : ByteArray) : Calls Try.prog 20 #[p, .string s] w fun e w' => e = .returned (.tuple #[.slice none 0 0, .int .i64 1]) ∧ Below w.heap.size w w' := by
  have I := hide (check_v (h.alloc (.cells #[.string s] 9)) (some ⟨w.heap.size, 0, none⟩) 1 1)
  have B : Hid (Below w.heap.size w (w.alloc (.cells #[.string s] 9))) := (Below.refl _ w).alloc (Nat.le_refl _) _
  go_enter Try.func20, Try.ntmps20
  go_wp2_with fail
  refine I.out.mono ?_
  rintro e w' ⟨rfl, hw⟩; replace hw := hw.symm; subst hw
  go_wp2_with fail
  go_ret2
  exact ⟨rfl, B.out⟩
theorem append_v (h : Vd w p) (s : ByteArray) (a : Option Addr) (n c : Nat) : Calls Try.prog 13 #[p, .string s, .slice a n c] w fun e w' => e = .returned (.int .i64 1) ∧ Below w.heap.size w w' := by
  have I := hide (beginWith_v h s)
  go_enter Try.func13, Try.ntmps13
  go_wp2_with fail
  refine I.out.mono ?_
  rintro e w' ⟨rfl, B⟩
  go_wp2_with fail
  go_ret
  exact ⟨rfl, B⟩
theorem write_v (h : Vd w p) (s : ByteArray) (x : Int) (a : Option Addr) (n c : Nat) : Calls Try.prog 25 #[p, .string s, .int .i64 x, .slice a n c] w fun e w' => e = .returned (.int .i64 1) ∧ Below w.heap.size w w' := by
  have I := hide (beginWith_v h s)
  go_enter Try.func25, Try.ntmps25
  go_wp2_with fail
  refine I.out.mono ?_
  rintro e w' ⟨rfl, B⟩
  go_wp2_with fail
  go_ret
  exact ⟨rfl, B⟩
theorem cut_v (h : Vd w p) (s : ByteArray) (x : Int) : Calls Try.prog 30 #[p, .string s, .int .i64 x] w fun e w' => e = .returned (.int .i64 1) ∧ Below w.heap.size w w' := by
  have I := hide (beginWith_v h s)
  go_enter Try.func30, Try.ntmps30
  go_wp2_with fail
  refine I.out.mono ?_
  rintro e w' ⟨rfl, B⟩
  go_wp2_with fail
  go_ret
  exact ⟨rfl, B⟩
theorem sync_v (h : Vd w p) (s : ByteArray) : Calls Try.prog 14 #[p, .string s] w fun e w' => e = .returned (.int .i64 1) ∧ Below w.heap.size w w' := by
  have I := hide (beginWith_v h s)
  go_enter Try.func14, Try.ntmps14
  go_wp2_with fail
  refine I.out.mono ?_
  rintro e w' ⟨rfl, B⟩
  go_wp2_with fail
  go_ret
  exact ⟨rfl, B⟩
theorem remove_v (h : Vd w p) (s : ByteArray) : Calls Try.prog 11 #[p, .string s] w fun e w' => e = .returned (.int .i64 1) ∧ Below w.heap.size w w' := by
  have I := hide (beginWith_v h s)
  go_enter Try.func11, Try.ntmps11
  go_wp2_with fail
  refine I.out.mono ?_
  rintro e w' ⟨rfl, B⟩
  go_wp2_with fail
  go_ret
  exact ⟨rfl, B⟩
theorem syncDir_v (h : Vd w p) : Calls Try.prog 15 #[p] w fun e w' => e = .returned (.int .i64 1) ∧ w' = w := by
  have I := hide (begin_v h none 0 0)
  go_enter Try.func15, Try.ntmps15
  go_wp2_with fail
  refine I.out.mono ?_
  rintro e w' ⟨rfl, hw⟩; replace hw := hw.symm; subst hw
  go_wp2_with fail
  go_ret
  exact ⟨rfl, rfl⟩
theorem fuse_v (h : Vd w p) (n : Int) : Calls Try.prog 28 #[p, .int .i64 n] w fun e w' => e = .returned (.int .i64 1) ∧ w' = w := by
  have I := hide (isMade_v h)
  go_enter Try.func28, Try.ntmps28
  go_wp2_with fail
  refine I.out.mono ?_
  rintro e w' ⟨rfl, hw⟩; replace hw := hw.symm; subst hw
  go_wp2_with fail
  go_ret
  exact ⟨rfl, rfl⟩
theorem room_v (h : Vd w p) (n : Int) : Calls Try.prog 10 #[p, .int .i64 n] w fun e w' => e = .returned (.int .i64 1) ∧ w' = w := by
  have I := hide (isMade_v h)
  go_enter Try.func10, Try.ntmps10
  go_wp2_with fail
  refine I.out.mono ?_
  rintro e w' ⟨rfl, hw⟩; replace hw := hw.symm; subst hw
  go_wp2_with fail
  go_ret
  exact ⟨rfl, rfl⟩
theorem names_v (h : Vd w p) : Calls Try.prog 21 #[p] w fun e w' => e = .returned (.slice none 0 0) ∧ w' = w := by
  have I := hide (isMade_v h)
  go_enter Try.func21, Try.ntmps21
  go_wp2_with fail
  refine I.out.mono ?_
  rintro e w' ⟨rfl, hw⟩; replace hw := hw.symm; subst hw
  go_wp2_with fail
  go_ret
  exact ⟨rfl, rfl⟩
theorem used_v (h : Vd w p) : Calls Try.prog 32 #[p] w fun e w' => e = .returned (.int .i64 0) ∧ w' = w := by
  have I := hide (isMade_v h)
  go_enter Try.func32, Try.ntmps32
  go_wp2_with fail
  refine I.out.mono ?_
  rintro e w' ⟨rfl, hw⟩; replace hw := hw.symm; subst hw
  go_wp2_with fail
  go_ret
  exact ⟨rfl, rfl⟩
theorem steps_v (h : Vd w p) : Calls Try.prog 27 #[p] w fun e w' => e = .returned (.int .i64 0) ∧ w' = w := by
  have I := hide (isMade_v h)
  go_enter Try.func27, Try.ntmps27
  go_wp2_with fail
  refine I.out.mono ?_
  rintro e w' ⟨rfl, hw⟩; replace hw := hw.symm; subst hw
  go_wp2_with fail
  go_ret
  exact ⟨rfl, rfl⟩
set_option maxRecDepth 100000 in
theorem crash_v (h : Vd w p) (a : Option Addr) (n c : Nat) (hp : ∃ ad, p = .pointer ad) : Calls Try.prog 9 #[p, .slice a n c] w fun e w' => e = .returned (.int .i64 1) ∧ Below w.heap.size w w' := by
  obtain ⟨ad, rfl⟩ := hp
  have I := hide (isMade_v (h.alloc (.cells #[.pointer ad] 26)))
  have B : Hid (Below w.heap.size w (w.alloc (.cells #[.pointer ad] 26))) := (Below.refl _ w).alloc (Nat.le_refl _) _
  refine (callsIn_wide (n := 5)).1 ?_
  refine callsIn_of_wp_marks Try.func9 rfl trivial ?_ rfl
  simp only [Try.ntmps9, List.size_toArray, List.length_cons, List.length_nil, Nat.reduceAdd, Nat.reduceSub, Array.replicate_succ, Array.replicate_zero, List.push_toArray, List.append_toArray, List.nil_append, List.cons_append]
  gi_wp2
  refine ⟨trivial, (callsIn_wide.2 I.out).mono ?_⟩
  rintro e w' ⟨rfl, hw⟩; replace hw := hw.symm; subst hw
  gi_wp2
  exact ⟨_, results_tmp rfl _ _ _, rfl, B.out⟩
end
end Go.Proofs.Ytgbijkdfhkkieaa
