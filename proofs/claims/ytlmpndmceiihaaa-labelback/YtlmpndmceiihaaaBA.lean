/-
  label.readLabel, as a function of what is left.
-/
import Derived.Test.YtlmpndmceiihaaaX
import Derived.Test.YtlmpndmceiihaaaVP
namespace Go.Proofs.Ytlmpndmceiihaaa
open Go.RowKit
set_option linter.unusedVariables false
set_option linter.unusedSimpArgs false

/-- A box of two texts, which may be written. -/
def Box2 (w : World) (g : Nat) (x y : Str) : Prop := (w.cell? ⟨g, 0, none⟩ = some (.string x) ∧ w.cell? ⟨g, 1, none⟩ = some (.string y)) ∧ w.frozen? ⟨g, 0, none⟩ = false ∧ w.frozen? ⟨g, 1, none⟩ = false ∧ g < w.heap.size
theorem Box2.new (w : World) (x y : Str) (t : TypeId) : Box2 (w.alloc (.cells #[.string x, .string y] t)) w.heap.size x y :=
  ⟨cells2 w _ _ t, by unfold World.frozen?; rw [heap_alloc_new]; simp, by unfold World.frozen?; rw [heap_alloc_new]; simp, by simp⟩
theorem Box2.kept {w w' : World} {g B : Nat} {x y : Str} (h : Box2 w g x y) (hb : Below B w w') (hB : g < B) : Box2 w' g x y :=
  ⟨⟨(hb.cell (p := ⟨g, 0, none⟩) hB).trans h.1.1, (hb.cell (p := ⟨g, 1, none⟩) hB).trans h.1.2⟩, (hb.frozen (p := ⟨g, 0, none⟩) hB).trans h.2.1, (hb.frozen (p := ⟨g, 1, none⟩) hB).trans h.2.2.1, Nat.lt_of_lt_of_le h.2.2.2 hb.size⟩
theorem Box2.set {w : World} {g : Nat} {x y : Str} (h : Box2 w g x y) (x' y' : Str) : Box2 ((w.setCell ⟨g, 0, none⟩ (.string x')).setCell ⟨g, 1, none⟩ (.string y')) g x' y' := by
  have h1 : (w.setCell ⟨g, 0, none⟩ (.string x')).cell? ⟨g, 1, none⟩ = some (.string y) := (World.cell?_setCell_other _ _ _ _ (by simp)).trans h.1.2
  refine ⟨⟨?_, World.cell?_setCell_same _ _ _ h1⟩, by simp only [World.frozen?_setCell]; exact h.2.1, by simp only [World.frozen?_setCell]; exact h.2.2.1, by simp only [World.size_setCell]; exact h.2.2.2⟩
  exact (World.cell?_setCell_other _ _ _ _ (by simp)).trans (World.cell?_setCell_same _ _ _ h.1.1)
theorem Box2.other {w : World} {g : Nat} {x y : Str} (h : Box2 w g x y) : ∀ u, (w.setCell ⟨g, 0, none⟩ u).cell? ⟨g, 1, none⟩ = some (.string y) := fun u => (World.cell?_setCell_other _ _ _ _ (by simp)).trans h.1.2
set_option maxHeartbeats 2000000 in
theorem readLabel_rl (w : World) (a : Option Addr) (len cap : Nat) (l : List Int) (t : Nat) (h : V.Has w a len cap l) (hb : len ≤ 1099511627776) (ht : t ≤ len) :
    Calls Try.prog 18 #[.slice a len cap, .int .i64 t] w fun e w' => ((∃ x k, V.rl (l.drop t) = some (x, k) ∧ t + k ≤ len ∧ e = .returned (.tuple #[.agg #[.string x.1, .string x.2], .int .i64 ((t + k : Nat) : Int), .int .i64 0])) ∨ (V.rl (l.drop t) = none ∧ ∃ m : Int, m ≠ 0 ∧ e = .returned (.tuple #[.agg #[.string ByteArray.empty, .string ByteArray.empty], .int .i64 0, .int .i64 m]))) ∧ Below w.heap.size w w' := by
  have B0 : Hid (Below w.heap.size w (w.alloc (.cells #[.string ByteArray.empty, .string ByteArray.empty] 38))) := (Below.refl _ w).alloc (Nat.le_refl _) _
  have H0 := hide (h.kept B0.out (Nat.le_refl _))
  have hbt : Hid (∀ x ∈ l, 0 ≤ x ∧ x ≤ 255) := h.bytes
  have hll : Hid (l.length = len) := h.hlen
  have X0 := hide (Box2.new w ByteArray.empty ByteArray.empty 38)
  have r1 := hide (V.ReadBytes_rb _ a len cap l t H0.out hb ht)
  clear h
  go_enter Try.func18, Try.ntmps18
  go_wp2_with fail
  refine r1.out.mono ?_
  rintro e W1 ⟨⟨x, k, hx, a1, m1, c1, rfl, H1⟩ | ⟨hx, m, hm, rfl⟩, B1⟩
  · have b1 := hide (B0.out.trans (B1.mono B0.out.size))
    have G1 := hide (H0.out.kept B1 (Nat.le_refl _))
    have hk : t + k ≤ len := by
      have := (V.pb_rb (fun y hy => hbt.out y (List.mem_of_mem_drop hy)) hx).2.1
      rw [List.length_drop, hll.out] at this; omega
    obtain ⟨q, hq⟩ : ∃ q, t + k = q := ⟨_, rfl⟩
    rw [hq] at hk ⊢
    have r2 := hide (V.ReadBytes_rb W1 a len cap l q G1.out hb hk)
    have X1 := hide (X0.out.kept B1 X0.out.2.2.2)
    replace H1 := hide H1
    replace hx := hide hx
    replace hq := hide hq
    clear r1 B1
    go_wp2_with fail
    refine r2.out.mono ?_
    rintro e W2 ⟨⟨y, k2, hy, a2, m2, c2, rfl, H2⟩ | ⟨hy, m, hm, rfl⟩, B2⟩
    · have b2 := hide (b1.out.trans (B2.mono b1.out.size))
      have s1 := V.run_string (H1.out.kept B2 (Nat.le_refl _))
      have s2 := V.run_string H2
      have hrl : Hid (V.rl (l.drop t) = some ((strOfNums x, strOfNums y), k + k2)) := by
        show _ = _
        unfold V.rl
        rw [hx.out]
        simp only
        rw [List.drop_drop, hq.out, hy]
      have X2 := X1.out.kept B2 X1.out.2.2.2
      have X3 := hide (X2.set (strOfNums x) (strOfNums y))
      have p5 := X2.other
      obtain ⟨⟨p0, p1⟩, p2, p3, p4⟩ := X2
      obtain ⟨⟨o0, o1⟩, -, -, -⟩ := X3.out
      have b3 := hide ((b2.out.setCell (p := ⟨w.heap.size, 0, none⟩) (Nat.le_refl _) (.string (strOfNums x))).setCell (p := ⟨w.heap.size, 1, none⟩) (Nat.le_refl _) (.string (strOfNums y)))
      replace hy := hide hy
      replace H2 := hide H2
      clear r2 B2
      go_wp2_with fail
      refine bodyPost_ret (v := .tuple #[.agg #[.string (strOfNums x), .string (strOfNums y)], .int .i64 ((q : Int) + (k2 : Int)), .int .i64 0]) (by simp [results, Try.f18, go_sem, o0, o1]) rfl ?_
      have hk2 : q + k2 ≤ len := by
        have := (V.pb_rb (fun y hy => hbt.out y (List.mem_of_mem_drop hy)) hy.out).2.1
        rw [List.length_drop, hll.out] at this; omega
      refine ⟨.inl ⟨_, _, hrl.out, by have := hq.out; omega, ?_⟩, b3.out⟩
      rw [show ((t + (k + k2) : Nat) : Int) = (q : Int) + (k2 : Int) by have := hq.out; omega]
    · have b2 := hide (b1.out.trans (B2.mono b1.out.size))
      have hrl : Hid (V.rl (l.drop t) = none) := by
        show _ = _
        unfold V.rl
        rw [hx.out]
        simp only
        rw [List.drop_drop, hq.out, hy]
      have X2 := X1.out.kept B2 X1.out.2.2.2
      have X3 := hide (X2.set ByteArray.empty ByteArray.empty)
      have p5 := X2.other
      obtain ⟨⟨p0, p1⟩, p2, p3, p4⟩ := X2
      obtain ⟨⟨o0, o1⟩, -, -, -⟩ := X3.out
      have b3 := hide ((b2.out.setCell (p := ⟨w.heap.size, 0, none⟩) (Nat.le_refl _) (.string ByteArray.empty)).setCell (p := ⟨w.heap.size, 1, none⟩) (Nat.le_refl _) (.string ByteArray.empty))
      have hm' : (m != 0) = true := by rw [bne_iff_ne]; exact hm
      have hz9 := zero39
      clear r2 B2
      go_wp2_with fail
      refine bodyPost_ret (v := .tuple #[.agg #[.string ByteArray.empty, .string ByteArray.empty], .int .i64 0, .int .i64 m]) (by simp [results, Try.f18, go_sem, o0, o1]) rfl ?_
      exact ⟨.inr ⟨hrl.out, m, hm, rfl⟩, b3.out⟩
  · have b1 := hide (B0.out.trans (B1.mono B0.out.size))
    have hrl : Hid (V.rl (l.drop t) = none) := by
      show _ = _
      unfold V.rl
      rw [hx]
    have X2 := X0.out.kept B1 X0.out.2.2.2
    have X3 := hide (X2.set ByteArray.empty ByteArray.empty)
    have p5 := X2.other
    obtain ⟨⟨p0, p1⟩, p2, p3, p4⟩ := X2
    obtain ⟨⟨o0, o1⟩, -, -, -⟩ := X3.out
    have b3 := hide ((b1.out.setCell (p := ⟨w.heap.size, 0, none⟩) (Nat.le_refl _) (.string ByteArray.empty)).setCell (p := ⟨w.heap.size, 1, none⟩) (Nat.le_refl _) (.string ByteArray.empty))
    have hm' : (m != 0) = true := by rw [bne_iff_ne]; exact hm
    have hz9 := zero39
    clear r1 B1
    go_wp2_with fail
    refine bodyPost_ret (v := .tuple #[.agg #[.string ByteArray.empty, .string ByteArray.empty], .int .i64 0, .int .i64 m]) (by simp [results, Try.f18, go_sem, o0, o1]) rfl ?_
    exact ⟨.inr ⟨hrl.out, m, hm, rfl⟩, b3.out⟩
end Go.Proofs.Ytlmpndmceiihaaa
