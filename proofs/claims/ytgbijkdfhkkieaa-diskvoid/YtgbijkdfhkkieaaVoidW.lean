/-
  DiskVoid: the walk.
-/
import Derived.Test.YtgbijkdfhkkieaaVA
namespace Go.Proofs.Ytgbijkdfhkkieaa.diskVoid
open Go.RowKit Go.Maps
set_option linter.unusedVariables false
theorem zero64 (w : World) : (zeroValue 64).run Try.prog w = .ok (.agg #[.int .i64 0, .bool false, .int .i64 0, .map none, .map none, .int .i64 0, .int .i64 0]) w := by kernel_rfl
set_option maxHeartbeats 8000000 in
set_option maxRecDepth 100000 in
theorem walk (s : ByteArray) (n : Int) (w : World) (hs : s.size ≤ maxLen) (hn : (Lit.int .i64 n).wf = true) :
    Calls Try.prog 6 #[.string s, .int .i64 n] w fun e w' => e = .returned (.bool true) ∧ Below w.heap.size w w' := by
  replace hs := hide hs
  replace hn := hide hn
  go_enter Try.func6, Try.ntmps6
  go_wp2_with fail
  refine (works_any w).mono ?_
  rintro e w1 ⟨rfl, B1⟩
  replace B1 := hide B1
  have hz := zero64
  have X := Bx.new w1 64 #[.int .i64 0, .bool false, .int .i64 0, .map none, .map none, .int .i64 0, .int .i64 0]
  have Vdz : Hid (Vd (w1.alloc (.cells #[.int .i64 0, .bool false, .int .i64 0, .map none, .map none, .int .i64 0, .int .i64 0] 64)) (ptr w1.heap.size)) := .inr ⟨_, rfl, X.lt, X.cell 3⟩
  have B2 := hide (B1.out.alloc B1.out.size (.cells #[.int .i64 0, .bool false, .int .i64 0, .map none, .map none, .int .i64 0, .int .i64 0] 64))
  obtain ⟨z, hz1⟩ : ∃ z, w1.heap.size = z := ⟨_, rfl⟩
  obtain ⟨w2, hw2⟩ : ∃ w2, w1.alloc (.cells #[.int .i64 0, .bool false, .int .i64 0, .map none, .map none, .int .i64 0, .int .i64 0] 64) = w2 := ⟨_, rfl⟩
  rw [hw2] at Vdz B2
  rw [hz1] at Vdz
  clear X B1
  go_wp2_with fail
  refine (read_v (.inl rfl : Vd w2 (.pointer none)) s).mono ?_
  rintro e w3 ⟨rfl, B3⟩
  have B3' := hide (B2.out.trans (B3.mono B2.out.size))
  have Vdz3 := hide (Vdz.out.below B3)
  clear B3 B2 Vdz hw2 hz1 hz
  go_wp2_with fail
  refine (read_v Vdz3.out s).mono ?_
  rintro e w4 ⟨rfl, B4⟩
  have Bk := hide (B3'.out.trans (B4.mono B3'.out.size))
  have Vz := hide (Vdz3.out.below B4)
  clear B4 B3' Vdz3
  go_wp2_with fail
  refine (create_v (.inl rfl : Vd _ (.pointer none)) s).mono ?_
  rintro e w5 ⟨rfl, Bn⟩
  replace Vz := hide (Vz.out.below Bn)
  replace Bk := hide (Bk.out.trans (Bn.mono Bk.out.size))
  clear Bn
  go_wp2_with fail
  refine (append_v Vz.out s none 0 0).mono ?_
  rintro e w6 ⟨rfl, Bn⟩
  replace Vz := hide (Vz.out.below Bn)
  replace Bk := hide (Bk.out.trans (Bn.mono Bk.out.size))
  clear Bn
  go_wp2_with fail
  refine (write_v (.inl rfl : Vd _ (.pointer none)) s n none 0 0).mono ?_
  rintro e w7 ⟨rfl, Bn⟩
  replace Vz := hide (Vz.out.below Bn)
  replace Bk := hide (Bk.out.trans (Bn.mono Bk.out.size))
  clear Bn
  go_wp2_with fail
  refine (cut_v Vz.out s n).mono ?_
  rintro e w8 ⟨rfl, Bn⟩
  replace Vz := hide (Vz.out.below Bn)
  replace Bk := hide (Bk.out.trans (Bn.mono Bk.out.size))
  clear Bn
  go_wp2_with fail
  refine (sync_v (.inl rfl : Vd _ (.pointer none)) s).mono ?_
  rintro e w9 ⟨rfl, Bn⟩
  replace Vz := hide (Vz.out.below Bn)
  replace Bk := hide (Bk.out.trans (Bn.mono Bk.out.size))
  clear Bn
  go_wp2_with fail
  refine (rename_v Vz.out s s).mono ?_
  rintro e w10 ⟨rfl, Bn⟩
  replace Vz := hide (Vz.out.below Bn)
  replace Bk := hide (Bk.out.trans (Bn.mono Bk.out.size))
  clear Bn
  go_wp2_with fail
  refine (remove_v (.inl rfl : Vd _ (.pointer none)) s).mono ?_
  rintro e w11 ⟨rfl, Bn⟩
  replace Vz := hide (Vz.out.below Bn)
  replace Bk := hide (Bk.out.trans (Bn.mono Bk.out.size))
  clear Bn
  go_wp2_with fail
  refine (syncDir_v Vz.out ).mono ?_
  rintro e w' ⟨rfl, hw⟩; replace hw := hw.symm; subst hw
  go_wp2_with fail
  refine (fuse_v (.inl rfl : Vd _ (.pointer none)) n).mono ?_
  rintro e w' ⟨rfl, hw⟩; replace hw := hw.symm; subst hw
  go_wp2_with fail
  refine (crash_v Vz.out none 0 0 ⟨_, rfl⟩).mono ?_
  rintro e w14 ⟨rfl, Bn⟩
  replace Vz := hide (Vz.out.below Bn)
  replace Bk := hide (Bk.out.trans (Bn.mono Bk.out.size))
  clear Bn
  go_wp2_with fail
  refine (room_v (.inl rfl : Vd _ (.pointer none)) n).mono ?_
  rintro e w' ⟨rfl, hw⟩; replace hw := hw.symm; subst hw
  go_wp2_with fail
  refine (names_v (.inl rfl : Vd _ (.pointer none)) ).mono ?_
  rintro e w' ⟨rfl, hw⟩; replace hw := hw.symm; subst hw
  go_wp2_with fail
  refine (names_v Vz.out ).mono ?_
  rintro e w' ⟨rfl, hw⟩; replace hw := hw.symm; subst hw
  go_wp2_with fail
  refine (used_v (.inl rfl : Vd _ (.pointer none)) ).mono ?_
  rintro e w' ⟨rfl, hw⟩; replace hw := hw.symm; subst hw
  go_wp2_with fail
  refine (used_v Vz.out ).mono ?_
  rintro e w' ⟨rfl, hw⟩; replace hw := hw.symm; subst hw
  go_wp2_with fail
  refine (steps_v (.inl rfl : Vd _ (.pointer none)) ).mono ?_
  rintro e w' ⟨rfl, hw⟩; replace hw := hw.symm; subst hw
  go_wp2_with fail
  refine (steps_v Vz.out ).mono ?_
  rintro e w' ⟨rfl, hw⟩; replace hw := hw.symm; subst hw
  go_wp2_with fail
  go_ret
  exact ⟨rfl, Bk.out⟩
end Go.Proofs.Ytgbijkdfhkkieaa.diskVoid
