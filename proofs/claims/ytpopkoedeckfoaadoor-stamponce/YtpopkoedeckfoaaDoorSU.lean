/-
  A reader and a writer of the program, two boxes of a state; what is read bit by bit.
-/
import Derived.Test.YtpopkoedeckfoaaDoorSQ
import Derived.Test.YtpopkoedeckfoaaDoorSJ
namespace Go.Proofs.YtpopkoedeckfoaaDoor
open Go.RowKit
set_option linter.unusedVariables false
set_option linter.unusedSimpArgs false

theorem bits_same {V N P i A : Nat} {lw : List Int} (hA : A = rd V N 0 P) (hP : P ≤ 8 * N) (hi : i < P) (hh : Holds lw A P) : rd (num lw) lw.length i 1 = rd V N i 1 := by
  rw [hh.num, rd_of_holds hh.lo (by omega), hA]
  have h1 : rd V N 0 P = rd V N 0 (i + 1) * 2 ^ (P - i - 1) + rd V N (i + 1) (P - i - 1) := by
    have := rd_more V N 0 (i + 1) (P - i - 1) (by omega)
    rw [show i + 1 + (P - i - 1) = P by omega, Nat.zero_add] at this
    exact this
  have h2 : rd V N 0 (i + 1) = rd V N 0 i * 2 ^ 1 + rd V N i 1 := by
    have := rd_more V N 0 i 1 (by omega)
    rwa [Nat.zero_add] at this
  rw [h1, Nat.mul_comm, Nat.mul_add_div (Nat.two_pow_pos _), Nat.div_eq_of_lt (rd_lt _ _ _ _), Nat.add_zero, h2]
  have := rd_lt V N i 1
  omega

theorem Wr.but {w w' : World} {base p A n q : Nat} {v : Value} (h : Wr w base p v A n) (hb : But (fun k => k = q) w w') (hn : ¬ fp p v q) : Wr w' base p v A n := by
  obtain ⟨m, O, H⟩ := h
  exact ⟨m, O.kept hb (fun k hk => by rw [hk]; exact hn), H⟩

structure OB (w0 w : World) (base q : Nat) (vq : Value) (l : List Int) (P p : Nat) (v : Value) (A g5 g6 : Nat) (a b c : Value) : Prop where
  rd : Rd w base q vq l P
  wr : Wr w base p v A P
  dis : Dis q vq p v
  t : Tab w
  bel : Below base w0 w
  b0 : 0 < base
  s5 : Box3 w g5 a b c
  s6 : Box3 w g6 a b c
  q5 : ¬ fp q vq g5
  q6 : ¬ fp q vq g6
  p5 : ¬ fp p v g5
  p6 : ¬ fp p v g6
  ne : g5 ≠ g6
  b5 : base ≤ g5
  b6 : base ≤ g6
section
variable {w0 w w' : World} {base q P p A g5 g6 P2 A2 : Nat} {vq v v' a b c : Value} {l : List Int}
theorem OB.below (h : OB w0 w base q vq l P p v A g5 g6 a b c) (hb : Below w.heap.size w w') : OB w0 w' base q vq l P p v A g5 g6 a b c :=
  ⟨h.rd.below hb (Nat.le_refl _), h.wr.below hb (Nat.le_refl _), h.dis, h.t.kept hb h.t.pos, h.bel.trans (hb.mono (by have := h.rd.lt; omega)), h.b0, h.s5.kept hb h.s5.lt, h.s6.kept hb h.s6.lt, h.q5, h.q6, h.p5, h.p6, h.ne, h.b5, h.b6⟩
end
/-- Between a read and its write. -/
structure OM (w0 w : World) (base q : Nat) (vq : Value) (l : List Int) (P p : Nat) (v : Value) (A P' g5 g6 : Nat) (a b c : Value) : Prop where
  rd : Rd w base q vq l P
  wr : Wr w base p v A P'
  dis : Dis q vq p v
  t : Tab w
  bel : Below base w0 w
  b0 : 0 < base
  s5 : Box3 w g5 a b c
  s6 : Box3 w g6 a b c
  q5 : ¬ fp q vq g5
  q6 : ¬ fp q vq g6
  p5 : ¬ fp p v g5
  p6 : ¬ fp p v g6
  ne : g5 ≠ g6
  b5 : base ≤ g5
  b6 : base ≤ g6
section
variable {w0 w w' : World} {base q P p A g5 g6 P' P2 A2 : Nat} {vq v v' a b c : Value} {l : List Int}
theorem OM.below (h : OM w0 w base q vq l P p v A P' g5 g6 a b c) (hb : Below w.heap.size w w') : OM w0 w' base q vq l P p v A P' g5 g6 a b c :=
  ⟨h.rd.below hb (Nat.le_refl _), h.wr.below hb (Nat.le_refl _), h.dis, h.t.kept hb h.t.pos, h.bel.trans (hb.mono (by have := h.rd.lt; omega)), h.b0, h.s5.kept hb h.s5.lt, h.s6.kept hb h.s6.lt, h.q5, h.q6, h.p5, h.p6, h.ne, h.b5, h.b6⟩
theorem OM.drew (h : OM w0 w base q vq l P p v A P' g5 g6 a b c) : OM w0 w.drew base q vq l P p v A P' g5 g6 a b c :=
  ⟨⟨h.rd.1.drew, h.rd.2⟩, h.wr.drew, h.dis, h.t, ⟨h.bel.os, h.bel.tape, h.bel.output, h.bel.size, h.bel.block⟩, h.b0, h.s5.drew, h.s6.drew, h.q5, h.q6, h.p5, h.p6, h.ne, h.b5, h.b6⟩
theorem OM.get (h : OM w0 w base q vq l P p v A P' g5 g6 a b c) (hb : But (fun k => k = q) w w') (hr : Rd w' base q vq l P2) : OM w0 w' base q vq l P2 p v A P' g5 g6 a b c :=
  have hB : Below base w w' := h.rd.1.belR hb
  ⟨hr, h.wr.but hb (h.dis q (.inl rfl)), h.dis, h.t.kept hB h.b0, h.bel.trans hB, h.b0, h.s5.but hb (fun e => h.q5 (.inl e)), h.s6.but hb (fun e => h.q6 (.inl e)), h.q5, h.q6, h.p5, h.p6, h.ne, h.b5, h.b6⟩
theorem OM.put (h : OM w0 w base q vq l P p v A P' g5 g6 a b c) (d : Did w w' base p v v') (hw : Wr w' base p v' A2 P2) : OM w0 w' base q vq l P p v' A2 P2 g5 g6 a b c :=
  ⟨(d.rd h.dis.symm h.rd).1, hw, (d.rd h.dis.symm h.rd).2.symm, h.t.kept d.bel h.b0, h.bel.trans d.bel, h.b0, h.s5.did d h.p5, h.s6.did d h.p6, h.q5, h.q6, d.not h.s5.lt h.p5, d.not h.s6.lt h.p6, h.ne, h.b5, h.b6⟩
/-- The one box is written, and then the other one. -/
theorem OM.set56 (h : OM w0 w base q vq l P p v A P' g5 g6 a b c) (x y z : Value) :
    OM w0 ((((((w.setCell ⟨g5, 0, none⟩ x).setCell ⟨g5, 1, none⟩ y).setCell ⟨g5, 2, none⟩ z).setCell ⟨g6, 0, none⟩ x).setCell ⟨g6, 1, none⟩ y).setCell ⟨g6, 2, none⟩ z) base q vq l P p v A P' g5 g6 x y z := by
  have h1 := but3 w g5 x y z
  have h2 := but3 (((w.setCell ⟨g5, 0, none⟩ x).setCell ⟨g5, 1, none⟩ y).setCell ⟨g5, 2, none⟩ z) g6 x y z
  have hlt := h.rd.lt
  have B1 : Below base w _ := h1.below (by omega) (fun i hi => by rw [hi]; exact h.b5)
  have B2 : Below base _ _ := h2.below (by have := h1.size; omega) (fun i hi => by rw [hi]; exact h.b6)
  have B := B1.trans B2
  exact ⟨(h.rd.but h1 h.q5).but h2 h.q6, (h.wr.but h1 h.p5).but h2 h.p6, h.dis, h.t.kept B h.b0, h.bel.trans B, h.b0, (h.s5.set x y z).but h2 h.ne, (h.s6.but h1 (fun e => h.ne e.symm)).set x y z, h.q5, h.q6, h.p5, h.p6, h.ne, h.b5, h.b6⟩
theorem OM.set65 (h : OM w0 w base q vq l P p v A P' g5 g6 a b c) (x y z : Value) :
    OM w0 ((((((w.setCell ⟨g6, 0, none⟩ x).setCell ⟨g6, 1, none⟩ y).setCell ⟨g6, 2, none⟩ z).setCell ⟨g5, 0, none⟩ x).setCell ⟨g5, 1, none⟩ y).setCell ⟨g5, 2, none⟩ z) base q vq l P p v A P' g5 g6 x y z := by
  have h1 := but3 w g6 x y z
  have h2 := but3 (((w.setCell ⟨g6, 0, none⟩ x).setCell ⟨g6, 1, none⟩ y).setCell ⟨g6, 2, none⟩ z) g5 x y z
  have hlt := h.rd.lt
  have B1 : Below base w _ := h1.below (by omega) (fun i hi => by rw [hi]; exact h.b6)
  have B2 : Below base _ _ := h2.below (by have := h1.size; omega) (fun i hi => by rw [hi]; exact h.b5)
  have B := B1.trans B2
  exact ⟨(h.rd.but h1 h.q6).but h2 h.q5, (h.wr.but h1 h.p6).but h2 h.p5, h.dis, h.t.kept B h.b0, h.bel.trans B, h.b0, (h.s5.but h1 h.ne).set x y z, (h.s6.set x y z).but h2 (fun e => h.ne e.symm), h.q5, h.q6, h.p5, h.p6, h.ne, h.b5, h.b6⟩
theorem OM.start (h : Rd w base q vq l P) (hw : Wr w base p v A P') (hd : Dis q vq p v) (hT : Tab w) (hb : Below base w0 w) (hb0 : 0 < base) (a b c : Value) :
    OM w0 ((w.alloc (.cells #[a, b, c] 23)).alloc (.cells #[a, b, c] 23)) base q vq l P p v A P' w.heap.size (w.heap.size + 1) a b c := by
  have B0 : Below w.heap.size w (w.alloc (.cells #[a, b, c] 23)) := (Below.refl _ w).alloc (Nat.le_refl _) _
  have B1 : Below w.heap.size w ((w.alloc (.cells #[a, b, c] 23)).alloc (.cells #[a, b, c] 23)) := B0.alloc B0.size _
  have hlt := h.lt
  have hq : ∀ k, w.heap.size ≤ k → ¬ fp q vq k := fun k hk hf => by have := (h.1.fplt _ hf).2; omega
  exact ⟨h.below B1 (Nat.le_refl _), hw.below B1 (Nat.le_refl _), hd, hT.kept B1 hT.pos, hb.trans (B1.mono (by omega)), hb0, (Box3.new w _ _ _ 23).kept ((Below.refl (w.heap.size + 1) _).alloc (by simp) _) (by omega), Box3.new_at (by simp) _ _ _ 23, hq _ (Nat.le_refl _), hq _ (by omega), hw.not (Nat.le_refl _), hw.not (by omega), by omega, by omega, by omega⟩
end
end Go.Proofs.YtpopkoedeckfoaaDoor
