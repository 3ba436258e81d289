/-
  A reader and a writer of the program, two boxes of a state; what is read bit by bit.
-/
import Derived.Test.YtmddkinecplooaaDoorXQ
import Derived.Test.YtmddkinecplooaaDoorXJ
namespace Go.Proofs.YtmddkinecplooaaDoor
open Go.RowKit
set_option linter.unusedVariables false
set_option linter.unusedSimpArgs false

theorem bits_same {V N P i A : Nat} {lw : List Int} (hA : A = rd V N 0 P) (hP : P ≤ 8 * N) (hi : i < P) (hh : Holds lw A P) : rd (num lw) lw.length i 1 = rd V N i 1 := by
  rw [hh.num, rd_of_holds hh.lo (by omega), hA]
  have h1 : rd V N 0 P = rd V N 0 (i + 1) * 2 ^ (P - i - 1) + rd V N (i + 1) (P - i - 1) := by
    have := rd_more V N 0 (i + 1) (P - i - 1) (by omega)
    rw [show i + 1 + (P - i - 1) = P by omega, Nat.zero_add] at this
    exact this
  have h2 : rd V N 0 (i + 1) = rd V N 0 i * 2 ^ 1 + rd V N i 1 := by
    have := rd_more V N 0 i 1 (by omega)
    rwa [Nat.zero_add] at this
  rw [h1, Nat.mul_comm, Nat.mul_add_div (Nat.two_pow_pos _), Nat.div_eq_of_lt (rd_lt _ _ _ _), Nat.add_zero, h2]
  have := rd_lt V N i 1
  omega
theorem rd_go {V N P k X : Nat} (h : P + k ≤ 8 * N) (hX : rd V N P k = X) : rd V N 0 P * 2 ^ k + X = rd V N 0 (P + k) := by
  have := rd_more V N 0 P k (by omega)
  rw [Nat.zero_add, hX] at this
  exact this.symm
theorem Wr.but {w w' : World} {base p A n q : Nat} {v : Value} (h : Wr w base p v A n) (hb : But (fun k => k = q) w w') (hn : ¬ fp p v q) : Wr w' base p v A n := by
  obtain ⟨m, O, H⟩ := h
  exact ⟨m, O.kept hb (fun k hk => by rw [hk]; exact hn), H⟩
theorem Rd.but {w w' : World} {base p n q : Nat} {v : Value} {l : List Int} (h : Rd w base p v l n) (hb : But (fun k => k = q) w w') (hn : ¬ fp p v q) : Rd w' base p v l n :=
  ⟨h.1.kept hb (fun k hk => by rw [hk]; exact hn), h.2⟩

structure OM (w0 w : World) (base q : Nat) (vq : Value) (l : List Int) (P p : Nat) (v : Value) (A P' g5 g6 : Nat) (a b c d : Value) : Prop where
  rd : Rd w base q vq l P
  wr : Wr w base p v A P'
  dis : Dis q vq p v
  t : Tab w
  bel : Below base w0 w
  b0 : 0 < base
  s5 : Bx w g5 24 #[a, b, c, d]
  s6 : Bx w g6 24 #[a, b, c, d]
  q5 : ¬ fp q vq g5
  q6 : ¬ fp q vq g6
  p5 : ¬ fp p v g5
  p6 : ¬ fp p v g6
  ne : g5 ≠ g6
  b5 : base ≤ g5
  b6 : base ≤ g6
section
variable {w0 w w' : World} {base q P p A g5 g6 P' P2 A2 : Nat} {vq v v' a b c d : Value} {l : List Int}
theorem OM.below (h : OM w0 w base q vq l P p v A P' g5 g6 a b c d) (hb : Below w.heap.size w w') : OM w0 w' base q vq l P p v A P' g5 g6 a b c d :=
  ⟨h.rd.below hb (Nat.le_refl _), h.wr.below hb (Nat.le_refl _), h.dis, h.t.below hb, h.bel.trans (hb.mono (by have := h.rd.lt; omega)), h.b0, h.s5.below hb, h.s6.below hb, h.q5, h.q6, h.p5, h.p6, h.ne, h.b5, h.b6⟩
theorem OM.alloc (h : OM w0 w base q vq l P p v A P' g5 g6 a b c d) (o : Obj) : OM w0 (w.alloc o) base q vq l P p v A P' g5 g6 a b c d := h.below ((Below.refl _ _).alloc (Nat.le_refl _) _)
theorem OM.drew (h : OM w0 w base q vq l P p v A P' g5 g6 a b c d) : OM w0 w.drew base q vq l P p v A P' g5 g6 a b c d :=
  ⟨h.rd.drew, h.wr.drew, h.dis, h.t, below_drew h.bel, h.b0, h.s5, h.s6, h.q5, h.q6, h.p5, h.p6, h.ne, h.b5, h.b6⟩
theorem OM.get (h : OM w0 w base q vq l P p v A P' g5 g6 a b c d) (e : Did w w' base q nul nul) (hr : Rd w' base q vq l P2) : OM w0 w' base q vq l P2 p v A P' g5 g6 a b c d :=
  ⟨hr, (e.wr (dis_nul h.dis) h.wr).1, h.dis, h.t.did e h.b0, h.bel.trans e.bel, h.b0, h.s5.did e (nf_nul h.q5), h.s6.did e (nf_nul h.q6), h.q5, h.q6, h.p5, h.p6, h.ne, h.b5, h.b6⟩
theorem OM.put (h : OM w0 w base q vq l P p v A P' g5 g6 a b c d) (e : Did w w' base p v v') (hw : Wr w' base p v' A2 P2) : OM w0 w' base q vq l P p v' A2 P2 g5 g6 a b c d :=
  ⟨(e.rd h.dis.symm h.rd).1, hw, (e.rd h.dis.symm h.rd).2.symm, h.t.did e h.b0, h.bel.trans e.bel, h.b0, h.s5.did e h.p5, h.s6.did e h.p6, h.q5, h.q6, e.not h.s5.lt h.p5, e.not h.s6.lt h.p6, h.ne, h.b5, h.b6⟩
/-- The one box is written, and then the other one. -/
theorem OM.set56 (h : OM w0 w base q vq l P p v A P' g5 g6 a b c d) (x y z u : Value) :
    OM w0 ((((((((w.setCell ⟨g5, 0, none⟩ x).setCell ⟨g5, 1, none⟩ y).setCell ⟨g5, 2, none⟩ z).setCell ⟨g5, 3, none⟩ u).setCell ⟨g6, 0, none⟩ x).setCell ⟨g6, 1, none⟩ y).setCell ⟨g6, 2, none⟩ z).setCell ⟨g6, 3, none⟩ u) base q vq l P p v A P' g5 g6 x y z u := by
  have h1 := but_set4 w g5 x y z u
  have h2 := but_set4 ((((w.setCell ⟨g5, 0, none⟩ x).setCell ⟨g5, 1, none⟩ y).setCell ⟨g5, 2, none⟩ z).setCell ⟨g5, 3, none⟩ u) g6 x y z u
  have hlt := h.rd.lt
  have B1 : Below base w _ := h1.below (by omega) (fun i hi => by rw [hi]; exact h.b5)
  have B2 : Below base _ _ := h2.below (by have := h1.size; omega) (fun i hi => by rw [hi]; exact h.b6)
  have B := B1.trans B2
  exact ⟨(h.rd.but h1 h.q5).but h2 h.q6, (h.wr.but h1 h.p5).but h2 h.p6, h.dis, h.t.kept B h.b0, h.bel.trans B, h.b0, (h.s5.set4 x y z u).but h2 h.ne, (h.s6.but h1 (fun e => h.ne e.symm)).set4 x y z u, h.q5, h.q6, h.p5, h.p6, h.ne, h.b5, h.b6⟩
theorem OM.start (h : Rd w base q vq l P) (hw : Wr w base p v A P') (hd : Dis q vq p v) (hT : Tab w) (hb : Below base w0 w) (hb0 : 0 < base) (a b c d : Value) :
    OM w0 ((w.alloc (.cells #[a, b, c, d] 24)).alloc (.cells #[a, b, c, d] 24)) base q vq l P p v A P' w.heap.size (w.heap.size + 1) a b c d := by
  have B0 : Below w.heap.size w (w.alloc (.cells #[a, b, c, d] 24)) := (Below.refl _ w).alloc (Nat.le_refl _) _
  have B1 : Below w.heap.size w ((w.alloc (.cells #[a, b, c, d] 24)).alloc (.cells #[a, b, c, d] 24)) := B0.alloc B0.size _
  have hlt := h.lt
  exact ⟨h.below B1 (Nat.le_refl _), hw.below B1 (Nat.le_refl _), hd, hT.below B1, hb.trans (B1.mono (by omega)), hb0, (Bx.new w 24 _).alloc _, Bx.new_at (by simp) 24 _, h.not (Nat.le_refl _), h.not (by omega), hw.not (Nat.le_refl _), hw.not (by omega), by omega, by omega, by omega⟩
end
end Go.Proofs.YtmddkinecplooaaDoor
