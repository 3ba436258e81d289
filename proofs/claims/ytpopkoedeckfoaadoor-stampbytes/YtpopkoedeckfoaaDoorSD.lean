/-
  The table of classes; boxes of three numbers; classOf.
-/
import Derived.Test.YtpopkoedeckfoaaDoorSC
import Derived.Deep.Cut
namespace Go.Proofs.YtpopkoedeckfoaaDoor
open Go.RowKit
set_option linter.unusedVariables false
set_option linter.unusedSimpArgs false

/-- The table of classes, as it lies. -/
def Tab (w : World) : Prop := ∃ t fr, w.heap[0]? = some (.cells #[.int .u64 0, .int .i64 1, .int .i64 0, .int .u64 2, .int .i64 2, .int .i64 7, .int .u64 6, .int .i64 3, .int .i64 12, .int .u64 14, .int .i64 4, .int .i64 20, .int .u64 15, .int .i64 4, .int .i64 48] t fr)
theorem Tab.pos {w : World} (h : Tab w) : 0 < w.heap.size := by
  obtain ⟨t, fr, h⟩ := h
  exact (Array.getElem?_eq_some_iff.1 h).1
theorem Tab.kept {w w' : World} {B : Nat} (h : Tab w) (hb : Below B w w') (hB : 0 < B) : Tab w' := by
  obtain ⟨t, fr, h⟩ := h
  exact ⟨t, fr, (hb.block 0 hB).trans h⟩
theorem info100 : (Tryd.prog.info? 100).map (·.size) = some 15 := by kernel_rfl

theorem index0 (w : World) : (Instr.index 100 (.agg #[.int .u64 0, .int .i64 1, .int .i64 0, .int .u64 2, .int .i64 2, .int .i64 7, .int .u64 6, .int .i64 3, .int .i64 12, .int .u64 14, .int .i64 4, .int .i64 20, .int .u64 15, .int .i64 4, .int .i64 48]) (.int .i64 0)).run Tryd.prog w = .ok (.agg #[.int .u64 0, .int .i64 1, .int .i64 0]) w := by kernel_rfl
theorem index1 (w : World) : (Instr.index 100 (.agg #[.int .u64 0, .int .i64 1, .int .i64 0, .int .u64 2, .int .i64 2, .int .i64 7, .int .u64 6, .int .i64 3, .int .i64 12, .int .u64 14, .int .i64 4, .int .i64 20, .int .u64 15, .int .i64 4, .int .i64 48]) (.int .i64 1)).run Tryd.prog w = .ok (.agg #[.int .u64 2, .int .i64 2, .int .i64 7]) w := by kernel_rfl
theorem index2 (w : World) : (Instr.index 100 (.agg #[.int .u64 0, .int .i64 1, .int .i64 0, .int .u64 2, .int .i64 2, .int .i64 7, .int .u64 6, .int .i64 3, .int .i64 12, .int .u64 14, .int .i64 4, .int .i64 20, .int .u64 15, .int .i64 4, .int .i64 48]) (.int .i64 2)).run Tryd.prog w = .ok (.agg #[.int .u64 6, .int .i64 3, .int .i64 12]) w := by kernel_rfl
theorem index3 (w : World) : (Instr.index 100 (.agg #[.int .u64 0, .int .i64 1, .int .i64 0, .int .u64 2, .int .i64 2, .int .i64 7, .int .u64 6, .int .i64 3, .int .i64 12, .int .u64 14, .int .i64 4, .int .i64 20, .int .u64 15, .int .i64 4, .int .i64 48]) (.int .i64 3)).run Tryd.prog w = .ok (.agg #[.int .u64 14, .int .i64 4, .int .i64 20]) w := by kernel_rfl
theorem index4 (w : World) : (Instr.index 100 (.agg #[.int .u64 0, .int .i64 1, .int .i64 0, .int .u64 2, .int .i64 2, .int .i64 7, .int .u64 6, .int .i64 3, .int .i64 12, .int .u64 14, .int .i64 4, .int .i64 20, .int .u64 15, .int .i64 4, .int .i64 48]) (.int .i64 4)).run Tryd.prog w = .ok (.agg #[.int .u64 15, .int .i64 4, .int .i64 48]) w := by kernel_rfl

/-- A class as a value. -/
def clsV (c : Nat) : Value := .agg #[.int .u64 ((cMark c : Nat) : Int), .int .i64 ((cAhead c : Nat) : Int), .int .i64 ((cSize c : Nat) : Int)]

/-- A box of three values, which may be written. -/
structure Box3 (w : World) (g : Nat) (x y z : Value) : Prop where
  c0 : w.cell? ⟨g, 0, none⟩ = some x
  c1 : w.cell? ⟨g, 1, none⟩ = some y
  c2 : w.cell? ⟨g, 2, none⟩ = some z
  f0 : w.frozen? ⟨g, 0, none⟩ = false
  f1 : w.frozen? ⟨g, 1, none⟩ = false
  f2 : w.frozen? ⟨g, 2, none⟩ = false
  lt : g < w.heap.size
theorem Box3.new (w : World) (x y z : Value) (t : TypeId) : Box3 (w.alloc (.cells #[x, y, z] t)) w.heap.size x y z := by
  refine ⟨?_, ?_, ?_, ?_, ?_, ?_, by simp⟩
  · unfold World.cell?; rw [heap_alloc_new]; rfl
  · unfold World.cell?; rw [heap_alloc_new]; rfl
  · unfold World.cell?; rw [heap_alloc_new]; rfl
  · unfold World.frozen?; rw [heap_alloc_new]; simp
  · unfold World.frozen?; rw [heap_alloc_new]; simp
  · unfold World.frozen?; rw [heap_alloc_new]; simp
theorem Box3.kept {w w' : World} {g B : Nat} {x y z : Value} (h : Box3 w g x y z) (hb : Below B w w') (hB : g < B) : Box3 w' g x y z :=
  ⟨(hb.cell (p := ⟨g, 0, none⟩) hB).trans h.c0, (hb.cell (p := ⟨g, 1, none⟩) hB).trans h.c1, (hb.cell (p := ⟨g, 2, none⟩) hB).trans h.c2, (hb.frozen (p := ⟨g, 0, none⟩) hB).trans h.f0, (hb.frozen (p := ⟨g, 1, none⟩) hB).trans h.f1, (hb.frozen (p := ⟨g, 2, none⟩) hB).trans h.f2, Nat.lt_of_lt_of_le h.lt hb.size⟩
theorem Box3.o1 {w : World} {g : Nat} {x y z : Value} (h : Box3 w g x y z) : ∀ u, (w.setCell ⟨g, 0, none⟩ u).cell? ⟨g, 1, none⟩ = some y := fun u => (World.cell?_setCell_other _ _ _ _ (by simp)).trans h.c1
theorem Box3.o2 {w : World} {g : Nat} {x y z : Value} (h : Box3 w g x y z) : ∀ u v, ((w.setCell ⟨g, 0, none⟩ u).setCell ⟨g, 1, none⟩ v).cell? ⟨g, 2, none⟩ = some z := fun u v => (World.cell?_setCell_other _ _ _ _ (by simp)).trans ((World.cell?_setCell_other _ _ _ _ (by simp)).trans h.c2)
theorem Box3.set {w : World} {g : Nat} {x y z : Value} (h : Box3 w g x y z) (x' y' z' : Value) : Box3 (((w.setCell ⟨g, 0, none⟩ x').setCell ⟨g, 1, none⟩ y').setCell ⟨g, 2, none⟩ z') g x' y' z' := by
  refine ⟨?_, ?_, World.cell?_setCell_same _ _ _ (h.o2 _ _), by simp only [World.frozen?_setCell]; exact h.f0, by simp only [World.frozen?_setCell]; exact h.f1, by simp only [World.frozen?_setCell]; exact h.f2, by simp only [World.size_setCell]; exact h.lt⟩
  · exact (World.cell?_setCell_other _ _ _ _ (by simp)).trans ((World.cell?_setCell_other _ _ _ _ (by simp)).trans (World.cell?_setCell_same _ _ _ h.c0))
  · exact (World.cell?_setCell_other _ _ _ _ (by simp)).trans (World.cell?_setCell_same _ _ _ (h.o1 _))
theorem below_set3 {w w' : World} {B g : Nat} (h : Below B w w') (hg : B ≤ g) (x y z : Value) : Below B w (((w'.setCell ⟨g, 0, none⟩ x).setCell ⟨g, 1, none⟩ y).setCell ⟨g, 2, none⟩ z) :=
  ((h.setCell (p := ⟨g, 0, none⟩) hg x).setCell (p := ⟨g, 1, none⟩) hg y).setCell (p := ⟨g, 2, none⟩) hg z

set_option maxHeartbeats 1000000 in
theorem classOf_any (z : Nat) (w : World) (hz : z < 281474976710656) (ht : Tab w) : Calls Tryd.prog 51 #[.int .u64 (z : Int)] w fun e w' => e = .returned (clsV (cls z)) ∧ Below w.heap.size w w' := by
  have B0 : Hid (Below w.heap.size w (w.alloc (.cells #[.int .u64 0, .int .i64 0, .int .i64 0] 96))) := (Below.refl _ w).alloc (Nat.le_refl _) _
  have X0 := hide (Box3.new w (.int .u64 0) (.int .i64 0) (.int .i64 0) 96)
  obtain ⟨t, fr, T0⟩ := ht.kept B0.out ht.pos
  replace T0 := hide T0
  clear ht
  obtain ⟨y, hy⟩ : ∃ y : Int, (z : Int) = y := ⟨_, rfl⟩
  rw [hy]
  replace hy := hide hy
  go_enter Tryd.func51, Tryd.ntmps51
  go_wp2_with (refine wpList_load_row rfl 100 (.global 0) rfl 0 rfl _ _ _ _ T0.out Tryd.underlying100 rfl info100 ?_)
  go_loopw [6] (fun i wr => ∃ k : Nat, k ≤ cls z ∧ i = .int .i64 (k : Int) ∧ Hid (Box3 wr w.heap.size (.int .u64 0) (.int .i64 0) (.int .i64 0)) ∧ Hid (Below w.heap.size w wr)) (fun i _ => 5 - (intOf i).toNat)
  case atStart => exact ⟨0, Nat.zero_le _, rfl, X0, B0⟩
  case round =>
    obtain ⟨k, hk, rfl, X, B⟩ := hrel
    clear X0 B0 T0
    have hk4 := cls_le z
    have hcases := five (show k ≤ 4 by omega)
    have hyy := hy.out
    rcases hcases with rfl | rfl | rfl | rfl | rfl
    · simp only [show ((0 : Nat) : Int) = 0 from rfl]
      have hix := index0
      by_cases hc : cls z = 0
      · have hzr : z < 2 ^ cSize 0 := by have := cls_room hz; rw [hc] at this; exact this
        simp only [cSize, Nat.reducePow] at hzr
        have hc2 : y = 0 := by omega
        have b1 := hide (B.out.alloc B.out.size (.cells #[.int .u64 0, .int .i64 1, .int .i64 0] 96))
        have XX := X.out.kept (Below.refl wr.heap.size wr |>.alloc (Nat.le_refl _) (.cells #[.int .u64 0, .int .i64 1, .int .i64 0] 96)) X.out.lt
        have X2 := hide (XX.set (.int .u64 0) (.int .i64 1) (.int .i64 0))
        have b2 := hide (below_set3 b1.out (Nat.le_refl _) (.int .u64 0) (.int .i64 1) (.int .i64 0))
        have p7 := XX.o1
        have p8 := XX.o2
        obtain ⟨p0, p1, p2, p3, p4, p5, p6⟩ := XX
        have o0 := X2.out.c0
        have o1 := X2.out.c1
        have o2 := X2.out.c2
        have hcv : Hid (clsV (cls z) = .agg #[.int .u64 0, .int .i64 1, .int .i64 0]) := by rw [hc]; rfl
        replace hyy := hide hyy
        replace hc := hide hc
        go_wp2_with fail
        refine bodyPost_ret (v := .agg #[.int .u64 0, .int .i64 1, .int .i64 0]) (by simp [results, Tryd.f51, go_sem, o0, o1, o2]) rfl ?_
        exact ⟨by rw [hcv.out], b2.out⟩
      · have hzr : ¬ z < 2 ^ cSize 0 := fun h => by have := cls_least h (by omega); omega
        simp only [cSize, Nat.reducePow] at hzr
        have hc2 : ¬ y = 0 := by omega
        have b1 := hide (B.out.alloc B.out.size (.cells #[.int .u64 0, .int .i64 1, .int .i64 0] 96))
        have X1 := hide (X.out.kept (Below.refl wr.heap.size wr |>.alloc (Nat.le_refl _) (.cells #[.int .u64 0, .int .i64 1, .int .i64 0] 96)) X.out.lt)
        have hk5 : 1 ≤ cls z := by omega
        replace hyy := hide hyy
        clear hzr
        replace hc := hide hc
        replace hk := hide hk
        replace hk4 := hide hk4
        replace hk5 := hide hk5
        go_wp2_with fail
        go_roundw
        case rel => exact ⟨1, hk5.out, by go_num, X1, b1⟩
        case measure => simp [intOf]
    · simp only [show ((1 : Nat) : Int) = 1 from rfl]
      have hix := index1
      by_cases hc : cls z = 1
      · have hzr : z < 2 ^ cSize 1 := by have := cls_room hz; rw [hc] at this; exact this
        simp only [cSize, Nat.reducePow] at hzr
        have hc2 : y / 128 = 0 := by omega
        have b1 := hide (B.out.alloc B.out.size (.cells #[.int .u64 2, .int .i64 2, .int .i64 7] 96))
        have XX := X.out.kept (Below.refl wr.heap.size wr |>.alloc (Nat.le_refl _) (.cells #[.int .u64 2, .int .i64 2, .int .i64 7] 96)) X.out.lt
        have X2 := hide (XX.set (.int .u64 2) (.int .i64 2) (.int .i64 7))
        have b2 := hide (below_set3 b1.out (Nat.le_refl _) (.int .u64 2) (.int .i64 2) (.int .i64 7))
        have p7 := XX.o1
        have p8 := XX.o2
        obtain ⟨p0, p1, p2, p3, p4, p5, p6⟩ := XX
        have o0 := X2.out.c0
        have o1 := X2.out.c1
        have o2 := X2.out.c2
        have hcv : Hid (clsV (cls z) = .agg #[.int .u64 2, .int .i64 2, .int .i64 7]) := by rw [hc]; rfl
        replace hyy := hide hyy
        replace hc := hide hc
        go_wp2_with fail
        refine bodyPost_ret (v := .agg #[.int .u64 2, .int .i64 2, .int .i64 7]) (by simp [results, Tryd.f51, go_sem, o0, o1, o2]) rfl ?_
        exact ⟨by rw [hcv.out], b2.out⟩
      · have hzr : ¬ z < 2 ^ cSize 1 := fun h => by have := cls_least h (by omega); omega
        simp only [cSize, Nat.reducePow] at hzr
        have hc2 : ¬ y / 128 = 0 := by omega
        have b1 := hide (B.out.alloc B.out.size (.cells #[.int .u64 2, .int .i64 2, .int .i64 7] 96))
        have X1 := hide (X.out.kept (Below.refl wr.heap.size wr |>.alloc (Nat.le_refl _) (.cells #[.int .u64 2, .int .i64 2, .int .i64 7] 96)) X.out.lt)
        have hk5 : 2 ≤ cls z := by omega
        replace hyy := hide hyy
        clear hzr
        replace hc := hide hc
        replace hk := hide hk
        replace hk4 := hide hk4
        replace hk5 := hide hk5
        go_wp2_with fail
        go_roundw
        case rel => exact ⟨2, hk5.out, by go_num, X1, b1⟩
        case measure => simp [intOf]
    · simp only [show ((2 : Nat) : Int) = 2 from rfl]
      have hix := index2
      by_cases hc : cls z = 2
      · have hzr : z < 2 ^ cSize 2 := by have := cls_room hz; rw [hc] at this; exact this
        simp only [cSize, Nat.reducePow] at hzr
        have hc2 : y / 4096 = 0 := by omega
        have b1 := hide (B.out.alloc B.out.size (.cells #[.int .u64 6, .int .i64 3, .int .i64 12] 96))
        have XX := X.out.kept (Below.refl wr.heap.size wr |>.alloc (Nat.le_refl _) (.cells #[.int .u64 6, .int .i64 3, .int .i64 12] 96)) X.out.lt
        have X2 := hide (XX.set (.int .u64 6) (.int .i64 3) (.int .i64 12))
        have b2 := hide (below_set3 b1.out (Nat.le_refl _) (.int .u64 6) (.int .i64 3) (.int .i64 12))
        have p7 := XX.o1
        have p8 := XX.o2
        obtain ⟨p0, p1, p2, p3, p4, p5, p6⟩ := XX
        have o0 := X2.out.c0
        have o1 := X2.out.c1
        have o2 := X2.out.c2
        have hcv : Hid (clsV (cls z) = .agg #[.int .u64 6, .int .i64 3, .int .i64 12]) := by rw [hc]; rfl
        replace hyy := hide hyy
        replace hc := hide hc
        go_wp2_with fail
        refine bodyPost_ret (v := .agg #[.int .u64 6, .int .i64 3, .int .i64 12]) (by simp [results, Tryd.f51, go_sem, o0, o1, o2]) rfl ?_
        exact ⟨by rw [hcv.out], b2.out⟩
      · have hzr : ¬ z < 2 ^ cSize 2 := fun h => by have := cls_least h (by omega); omega
        simp only [cSize, Nat.reducePow] at hzr
        have hc2 : ¬ y / 4096 = 0 := by omega
        have b1 := hide (B.out.alloc B.out.size (.cells #[.int .u64 6, .int .i64 3, .int .i64 12] 96))
        have X1 := hide (X.out.kept (Below.refl wr.heap.size wr |>.alloc (Nat.le_refl _) (.cells #[.int .u64 6, .int .i64 3, .int .i64 12] 96)) X.out.lt)
        have hk5 : 3 ≤ cls z := by omega
        replace hyy := hide hyy
        clear hzr
        replace hc := hide hc
        replace hk := hide hk
        replace hk4 := hide hk4
        replace hk5 := hide hk5
        go_wp2_with fail
        go_roundw
        case rel => exact ⟨3, hk5.out, by go_num, X1, b1⟩
        case measure => simp [intOf]
    · simp only [show ((3 : Nat) : Int) = 3 from rfl]
      have hix := index3
      by_cases hc : cls z = 3
      · have hzr : z < 2 ^ cSize 3 := by have := cls_room hz; rw [hc] at this; exact this
        simp only [cSize, Nat.reducePow] at hzr
        have hc2 : y / 1048576 = 0 := by omega
        have b1 := hide (B.out.alloc B.out.size (.cells #[.int .u64 14, .int .i64 4, .int .i64 20] 96))
        have XX := X.out.kept (Below.refl wr.heap.size wr |>.alloc (Nat.le_refl _) (.cells #[.int .u64 14, .int .i64 4, .int .i64 20] 96)) X.out.lt
        have X2 := hide (XX.set (.int .u64 14) (.int .i64 4) (.int .i64 20))
        have b2 := hide (below_set3 b1.out (Nat.le_refl _) (.int .u64 14) (.int .i64 4) (.int .i64 20))
        have p7 := XX.o1
        have p8 := XX.o2
        obtain ⟨p0, p1, p2, p3, p4, p5, p6⟩ := XX
        have o0 := X2.out.c0
        have o1 := X2.out.c1
        have o2 := X2.out.c2
        have hcv : Hid (clsV (cls z) = .agg #[.int .u64 14, .int .i64 4, .int .i64 20]) := by rw [hc]; rfl
        replace hyy := hide hyy
        replace hc := hide hc
        go_wp2_with fail
        refine bodyPost_ret (v := .agg #[.int .u64 14, .int .i64 4, .int .i64 20]) (by simp [results, Tryd.f51, go_sem, o0, o1, o2]) rfl ?_
        exact ⟨by rw [hcv.out], b2.out⟩
      · have hzr : ¬ z < 2 ^ cSize 3 := fun h => by have := cls_least h (by omega); omega
        simp only [cSize, Nat.reducePow] at hzr
        have hc2 : ¬ y / 1048576 = 0 := by omega
        have b1 := hide (B.out.alloc B.out.size (.cells #[.int .u64 14, .int .i64 4, .int .i64 20] 96))
        have X1 := hide (X.out.kept (Below.refl wr.heap.size wr |>.alloc (Nat.le_refl _) (.cells #[.int .u64 14, .int .i64 4, .int .i64 20] 96)) X.out.lt)
        have hk5 : 4 ≤ cls z := by omega
        replace hyy := hide hyy
        clear hzr
        replace hc := hide hc
        replace hk := hide hk
        replace hk4 := hide hk4
        replace hk5 := hide hk5
        go_wp2_with fail
        go_roundw
        case rel => exact ⟨4, hk5.out, by go_num, X1, b1⟩
        case measure => simp [intOf]
    · simp only [show ((4 : Nat) : Int) = 4 from rfl]
      have hix := index4
      have hc : cls z = 4 := by omega
      have hc2 : y / 281474976710656 = 0 := by omega
      have b1 := hide (B.out.alloc B.out.size (.cells #[.int .u64 15, .int .i64 4, .int .i64 48] 96))
      have XX := X.out.kept (Below.refl wr.heap.size wr |>.alloc (Nat.le_refl _) (.cells #[.int .u64 15, .int .i64 4, .int .i64 48] 96)) X.out.lt
      have X2 := hide (XX.set (.int .u64 15) (.int .i64 4) (.int .i64 48))
      have b2 := hide (below_set3 b1.out (Nat.le_refl _) (.int .u64 15) (.int .i64 4) (.int .i64 48))
      have p7 := XX.o1
      have p8 := XX.o2
      obtain ⟨p0, p1, p2, p3, p4, p5, p6⟩ := XX
      have o0 := X2.out.c0
      have o1 := X2.out.c1
      have o2 := X2.out.c2
      have hcv : Hid (clsV (cls z) = .agg #[.int .u64 15, .int .i64 4, .int .i64 48]) := by rw [hc]; rfl
      replace hyy := hide hyy
      replace hc := hide hc
      go_wp2_with fail
      refine bodyPost_ret (v := .agg #[.int .u64 15, .int .i64 4, .int .i64 48]) (by simp [results, Tryd.f51, go_sem, o0, o1, o2]) rfl ?_
      exact ⟨by rw [hcv.out], b2.out⟩
end Go.Proofs.YtpopkoedeckfoaaDoor
