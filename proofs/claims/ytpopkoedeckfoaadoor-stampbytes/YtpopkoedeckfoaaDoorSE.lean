/-
  behind, coded.
-/
import Derived.Test.YtpopkoedeckfoaaDoorSD
import Derived.Test.YtpopkoedeckfoaaDoorF
namespace Go.Proofs.YtpopkoedeckfoaaDoor
open Go.RowKit
set_option linter.unusedVariables false
set_option linter.unusedSimpArgs false

theorem below_drewN {B : Nat} {w w' : World} (h : Below B w w') (k : Nat) : Below B w (w'.drewN k) := ⟨h.os, h.tape, h.output, h.size, h.block⟩
/-- A state as a value. -/
def stV (n l d : Nat) : Value := .agg #[.int .i64 (n : Int), .int .i64 (l : Int), .int .i64 (d : Int)]

theorem zero23 : (Tryd.prog.info? 23).map (·.zero) = some (some (.agg #[.int .i64 0, .int .i64 0, .int .i64 0])) := by kernel_rfl

set_option maxHeartbeats 1000000 in
theorem behind_any (n L D t : Nat) (w : World) (hs : OkS n L D) (ht : OkT n L (t : Int)) : Calls Tryd.prog 41 #[.agg #[.int .i64 (n : Int), .int .i64 (L : Int), .int .i64 (D : Int)], .int .i64 (t : Int)] w fun e w' => e = .returned (.agg #[.int .i64 ((n + 1 : Nat) : Int), .int .i64 (t : Int), .int .i64 ((dl n L t : Nat) : Int)]) ∧ Below w.heap.size w w' := by
  have B0 : Hid (Below w.heap.size w (w.alloc (.cells #[.int .i64 (n : Int), .int .i64 (L : Int), .int .i64 (D : Int)] 23))) := (Below.refl _ w).alloc (Nat.le_refl _) _
  have B1 := hide (B0.out.alloc B0.out.size (.cells #[.int .i64 0, .int .i64 0, .int .i64 0] 23))
  have XX := Box3.new (w.alloc (.cells #[.int .i64 (n : Int), .int .i64 (L : Int), .int .i64 (D : Int)] 23)) (.int .i64 0) (.int .i64 0) (.int .i64 0) 23
  simp only [World.size_alloc] at XX
  have hl := hs.l; have hd := hs.d; have hn := hs.n; have h1 := ht.le; have h2 := ht.up
  by_cases h0 : n = 0
  · subst h0
    have hdl : dl 0 L t = 0 := rfl
    rw [hdl]
    have X2 := hide (XX.set (.int .i64 1) (.int .i64 (t : Int)) (.int .i64 0))
    have b2 := hide (below_set3 (g := w.heap.size + 1) B1.out (by omega) (.int .i64 1) (.int .i64 (t : Int)) (.int .i64 0))
    have p7 := XX.o1
    have p8 := XX.o2
    obtain ⟨p0, p1, p2, p3, p4, p5, p6⟩ := XX
    have o0 := X2.out.c0
    have o1 := X2.out.c1
    have o2 := X2.out.c2
    simp only [show ((0 : Nat) : Int) = 0 from rfl] at *
    go_enter Tryd.func41, Tryd.ntmps41
    go_wp2_with fail
    refine bodyPost_ret (v := .agg #[.int .i64 1, .int .i64 (t : Int), .int .i64 0]) (by simp [results, Tryd.f41, go_sem, o0, o1, o2]) rfl ?_
    exact ⟨rfl, B0.out.alloc B0.out.size _⟩
  · have hdl : dl n L t = t - L := by unfold dl; rw [if_neg h0]
    obtain ⟨q, hq⟩ : ∃ q, t - L = q := ⟨_, rfl⟩
    rw [hdl, hq]
    have e1 : (t : Int) - (L : Int) = (q : Int) := by omega
    have i0 : ¬ (n : Int) = 0 := by omega
    have i1 : (n : Int) ≤ 4096 := by omega
    have i2 : (L : Int) ≤ 35184372088832 := by omega
    have i3 : (t : Int) ≤ 35184372088832 := by omega
    have X2 := hide (XX.set (.int .i64 ((n : Int) + 1)) (.int .i64 (t : Int)) (.int .i64 (q : Int)))
    have b2 := hide (below_set3 (g := w.heap.size + 1) B1.out (by omega) (.int .i64 ((n : Int) + 1)) (.int .i64 (t : Int)) (.int .i64 (q : Int)))
    have p7 := XX.o1
    have p8 := XX.o2
    obtain ⟨p0, p1, p2, p3, p4, p5, p6⟩ := XX
    have o0 := X2.out.c0
    have o1 := X2.out.c1
    have o2 := X2.out.c2
    clear hs ht hdl hq h2 hl hd h1
    go_enter Tryd.func41, Tryd.ntmps41
    go_wp2_with fail
    refine bodyPost_ret (v := .agg #[.int .i64 ((n : Int) + 1), .int .i64 (t : Int), .int .i64 (q : Int)]) (by simp [results, Tryd.f41, go_sem, o0, o1, o2]) rfl ?_
    exact ⟨rfl, B0.out.alloc B0.out.size _⟩

set_option maxHeartbeats 1000000 in
theorem coded_any (n L D t : Nat) (w : World) (hs : OkS n L D) (ht : OkT n L (t : Int)) (hT : Tab w) : Calls Tryd.prog 40 #[.agg #[.int .i64 (n : Int), .int .i64 (L : Int), .int .i64 (D : Int)], .int .i64 (t : Int)] w fun e w' => e = .returned (.tuple #[.int .u64 ((cdX n L D t : Nat) : Int), .int .i64 ((cdN n L D t : Nat) : Int)]) ∧ Below w.heap.size w w' := by
  have B0 : Hid (Below w.heap.size w (w.alloc (.cells #[.int .i64 (n : Int), .int .i64 (L : Int), .int .i64 (D : Int)] 23))) := (Below.refl _ w).alloc (Nat.le_refl _) _
  have hl := hs.l; have hd := hs.d; have hn := hs.n; have h1 := ht.le; have h2 := ht.up
  have i3 : (t : Int) ≤ 35184372088832 := by omega
  by_cases h0 : n = 0
  · subst h0
    have hx : cdX 0 L D t = t := rfl
    have hn : cdN 0 L D t = 46 := rfl
    rw [hx, hn]
    simp only [show ((0 : Nat) : Int) = 0 from rfl] at *
    clear hs ht h2
    go_enter Tryd.func40, Tryd.ntmps40
    go_wp2_with fail
    go_ret2
    exact ⟨rfl, B0.out⟩
  · have hzl := zz_lt hs (show t ≤ 35184372088832 by omega)
    have hx : cdX n L D t = cMark (cls (zz L D t)) * 2 ^ cSize (cls (zz L D t)) + zz L D t := by unfold cdX; rw [if_neg h0]
    have hn : cdN n L D t = cAhead (cls (zz L D t)) + cSize (cls (zz L D t)) := by unfold cdN; rw [if_neg h0]
    have F := hide (fun w => fold_any ((t : Int) - (L : Int) - (D : Int)) w (by omega) (by omega))
    have hzz : zig ((t : Int) - (L : Int) - (D : Int)) = zz L D t := rfl
    rw [hzz] at F
    have C := hide (classOf_any (zz L D t) _ hzl (hT.kept B0.out hT.pos))
    have hro := cls_room hzl
    have hml := cMark_lt (cls (zz L D t))
    have hor := hide (or_num hml hro (by have := cAhead_le (cls (zz L D t)); have := cSize_le (cls (zz L D t)); omega))
    rw [hx, hn]
    unfold clsV at C
    have hs48 := cSize_le (cls (zz L D t))
    have ha4 := cAhead_le (cls (zz L D t))
    clear hml hro hzz hx hn
    generalize zz L D t = z at *
    generalize cMark (cls z) = m at *
    generalize cAhead (cls z) = a at *
    generalize cSize (cls z) = s at *
    generalize m * 2 ^ s + z = X at *
    have i0 : ¬ (n : Int) = 0 := by omega
    have i2 : (L : Int) ≤ 35184372088832 := by omega
    have i4 : (D : Int) ≤ 35184372088832 := by omega
    have i5 : (s : Int) ≤ 48 := by omega
    have i6 : (a : Int) ≤ 4 := by omega
    have hor2 := hor.out
    clear hs ht h2 hzl hl hd h1 hT hor
    go_enter Tryd.func40, Tryd.ntmps40
    go_wp2_with (first | (go_at_call 50; refine (F.out _).mono ?_; rintro e wq ⟨rfl, rfl⟩) | (go_at_call 51; refine C.out.mono ?_; rintro e w1 ⟨rfl, B1⟩))
    have B2 := hide ((B0.out.trans (B1.mono B0.out.size)).alloc (by have := B1.size; have := B0.out.size; omega) (.cells #[.int .u64 (m : Int), .int .i64 (a : Int), .int .i64 (s : Int)] 96))
    clear C F B1
    go_quiet (fail)
    go_wp2_with fail
    go_ret2
    exact ⟨rfl, below_drewN B2.out _⟩
end Go.Proofs.YtpopkoedeckfoaaDoor
