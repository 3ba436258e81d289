/-
  A row of labels of which only this is known: that it is one; swapRange, rotate.
-/
import Derived.Test.YtfkjdibhnabkaaaAF
import Derived.BigRegion
namespace Go.Proofs.Ytfkjdibhnabkaaa
open Go.RowKit Go.Shelf Go.Lib
set_option linter.unusedVariables false
set_option linter.unusedSimpArgs false

/-- The block g has n labels, which may be written. -/
def RowS (w : World) (g n : Nat) : Prop := g < w.heap.size ∧ ∀ j, j < 2 * n → (∃ s, w.cell? ⟨g, j, none⟩ = some (.string s)) ∧ w.frozen? ⟨g, j, none⟩ = false
theorem RowS.below {w w' : World} {g n B : Nat} (h : RowS w g n) (hb : Below B w w') (hB : g < B) : RowS w' g n :=
  ⟨Nat.lt_of_lt_of_le h.1 hb.size, fun j hj => ⟨by obtain ⟨s, e⟩ := (h.2 j hj).1; exact ⟨s, (hb.cell (p := ⟨g, j, none⟩) hB).trans e⟩, (hb.frozen (p := ⟨g, j, none⟩) hB).trans (h.2 j hj).2⟩⟩
theorem RowS.drew {w : World} {g n : Nat} (h : RowS w g n) : RowS w.drew g n := ⟨h.1, h.2⟩
theorem RowS.set {w : World} {g n : Nat} (h : RowS w g n) (i : Nat) (s : Str) : RowS (w.setCell ⟨g, i, none⟩ (.string s)) g n := by
  refine ⟨by rw [World.size_setCell]; exact h.1, fun j hj => ⟨?_, by rw [World.frozen?_setCell]; exact (h.2 j hj).2⟩⟩
  by_cases e : j = i
  · subst e
    obtain ⟨s0, e0⟩ := (h.2 j hj).1
    exact ⟨s, by first | exact World.cell?_setCell_same _ _ _ ⟨_, e0⟩ | exact World.cell?_setCell_same _ _ _ (by rw [e0]; simp) | simp [World.cell?_setCell_same, e0]⟩
  · obtain ⟨s0, e0⟩ := (h.2 j hj).1
    exact ⟨s0, (World.cell?_setCell_other _ _ _ _ (fun e' => e (by have := congrArg Addr.off e'; simp at this; exact this.symm))).trans e0⟩
theorem RowS.at {w : World} {g n : Nat} (h : RowS w g n) (i : Nat) (hi : i < n) : ∃ x : Lab, w.cell? ⟨g, i * 2, none⟩ = some (.string x.1) ∧ w.cell? ⟨g, i * 2 + 1, none⟩ = some (.string x.2) ∧ w.frozen? ⟨g, i * 2, none⟩ = false ∧ w.frozen? ⟨g, i * 2 + 1, none⟩ = false := by
  obtain ⟨⟨s0, e0⟩, f0⟩ := h.2 (i * 2) (by omega)
  obtain ⟨⟨s1, e1⟩, f1⟩ := h.2 (i * 2 + 1) (by omega)
  exact ⟨(s0, s1), e0, e1, f0, f1⟩

/-- Two labels swapped. -/
theorem RowS.swap {w wr : World} {g n base : Nat} (h : RowS wr g n) (hB : Below base w wr) (hg : base ≤ g) (p q : Nat) (x0 x1 y0 y1 : Str) :
    Hid (RowS ((((wr.setCell ⟨g, p, none⟩ (.string y0)).setCell ⟨g, p + 1, none⟩ (.string y1)).setCell ⟨g, q, none⟩ (.string x0)).setCell ⟨g, q + 1, none⟩ (.string x1)).drew g n) ∧ Hid (Below base w ((((wr.setCell ⟨g, p, none⟩ (.string y0)).setCell ⟨g, p + 1, none⟩ (.string y1)).setCell ⟨g, q, none⟩ (.string x0)).setCell ⟨g, q + 1, none⟩ (.string x1)).drew) :=
  ⟨((((h.set p y0).set (p + 1) y1).set q x0).set (q + 1) x1).drew, ((((hB.setCell (p := ⟨g, p, none⟩) hg _).setCell (p := ⟨g, p + 1, none⟩) hg _).setCell (p := ⟨g, q, none⟩) hg _).setCell (p := ⟨g, q + 1, none⟩) hg _).drew⟩
theorem RowS.apart {wr : World} {g p q : Nat} {y : Lab} (hpq : p ≠ q) (y0 : wr.cell? ⟨g, q * 2, none⟩ = some (.string y.1)) (y1 : wr.cell? ⟨g, q * 2 + 1, none⟩ = some (.string y.2)) :
    (∀ u, (wr.setCell ⟨g, p * 2, none⟩ u).cell? ⟨g, q * 2, none⟩ = some (.string y.1)) ∧ (∀ u, (wr.setCell ⟨g, p * 2 + 1, none⟩ u).cell? ⟨g, q * 2 + 1, none⟩ = some (.string y.2)) :=
  ⟨fun u => (World.cell?_setCell_other _ _ _ _ (fun e' => by have := congrArg Addr.off e'; simp at this; omega)).trans y0, fun u => (World.cell?_setCell_other _ _ _ _ (fun e' => by have := congrArg Addr.off e'; simp at this; omega)).trans y1⟩
theorem wrapN (p : Nat) (h : p ≤ 100000) : IntKind.i64.wrap (p : Int) = (p : Int) := by rw [IntKind.wrap_i64]; omega

set_option maxHeartbeats 4000000 in
theorem swapRange_any (w : World) (g n cap base a b c : Nat) (h : RowS w g n) (hg : base ≤ g) (hn : n ≤ 1000) (ha : a + c ≤ n) (hb : b + c ≤ n) (hab : a ≠ b) (fv : Value) :
    Calls Try.prog 49 #[.slice (some ⟨g, 0, none⟩) n cap, .int .i64 (a : Int), .int .i64 (b : Int), .int .i64 (c : Int), fv] w fun e w' => e = .returned (.tuple #[]) ∧ RowS w' g n ∧ Below base w w' := by
  replace h := hide h
  go_enter Try.func49, Try.ntmps49
  go_wp2_with fail
  go_loopw [10] (fun i wr => ∃ k : Nat, k ≤ c ∧ i = .int .i64 (k : Int) ∧ Hid (RowS wr g n) ∧ Hid (Below base w wr)) (fun i _ => c - (intOf i).toNat)
  case atStart => exact ⟨0, Nat.zero_le _, rfl, h, Below.refl _ _⟩
  case round =>
    obtain ⟨k, hk, rfl, hR, hB⟩ := hrel
    by_cases hkc : k < c
    · have i1 : (k : Int) < (c : Int) := by omega
      obtain ⟨p, hp⟩ : ∃ p, a + k = p := ⟨_, rfl⟩
      obtain ⟨q, hq⟩ : ∃ q, b + k = q := ⟨_, rfl⟩
      have e1 : (a : Int) + (k : Int) = (p : Int) := by omega
      have e2 : (b : Int) + (k : Int) = (q : Int) := by omega
      have wp := wrapN p (by omega)
      have wq := wrapN q (by omega)
      have p1 : (p : Int) < (n : Int) := by omega
      have q1 : (q : Int) < (n : Int) := by omega
      obtain ⟨⟨xa, xb⟩, x0, x1, x2, x3⟩ := hR.out.at p (by omega)
      obtain ⟨⟨ya, yb⟩, y0, y1, y2, y3⟩ := hR.out.at q (by omega)
      obtain ⟨z0, z1⟩ := RowS.apart (show p ≠ q by omega) y0 y1
      simp only at x0 x1 y0 y1 z0 z1
      have SW := hide (hR.out.swap hB.out hg (p * 2) (q * 2) xa xb ya yb)
      clear hp hq
      go_wp2_with fail
      go_region
      go_wp2_with fail
      go_roundw
      case rel => exact ⟨k + 1, by omega, by go_num, SW.out.1, SW.out.2⟩
      case measure => simp [intOf]; omega
    · obtain rfl : c = k := by omega
      go_wp2_with fail
      go_end0
      exact ⟨rfl, hR.out, hB.out⟩

set_option maxHeartbeats 4000000 in
theorem rotate_any (w : World) (g n cap base a m b : Nat) (h : RowS w g n) (hg : base ≤ g) (hn : n ≤ 1000) (h1 : a < m) (h2 : m < b) (h3 : b ≤ n) (fv : Value) :
    Calls Try.prog 48 #[.slice (some ⟨g, 0, none⟩) n cap, .int .i64 (a : Int), .int .i64 (m : Int), .int .i64 (b : Int), fv] w fun e w' => e = .returned (.tuple #[]) ∧ RowS w' g n ∧ Below base w w' := by
  replace h := hide h
  obtain ⟨i0, hi0⟩ : ∃ i, m - a = i := ⟨_, rfl⟩
  obtain ⟨j0, hj0⟩ : ∃ j, b - m = j := ⟨_, rfl⟩
  have e1 : (m : Int) - (a : Int) = (i0 : Int) := by omega
  have e2 : (b : Int) - (m : Int) = (j0 : Int) := by omega
  go_enter Try.func48, Try.ntmps48
  go_wp2_with fail
  go_loopw [10, 11] (fun ii jj wr => ∃ i j : Nat, 0 < i ∧ 0 < j ∧ i ≤ m ∧ m + j ≤ n ∧ ii = .int .i64 (i : Int) ∧ jj = .int .i64 (j : Int) ∧ Hid (RowS wr g n) ∧ Hid (Below base w wr)) (fun ii jj _ => (intOf ii).toNat + (intOf jj).toNat)
  case atStart => exact ⟨i0, j0, by omega, by omega, by omega, by omega, rfl, rfl, h, Below.refl _ _⟩
  case round =>
    clear h e1 e2 hi0 hj0
    obtain ⟨i, j, hi, hj, him, hjn, rfl, rfl, hR, hB⟩ := hrel
    obtain ⟨p, hp⟩ : ∃ p, m - i = p := ⟨_, rfl⟩
    have e3 : (m : Int) - (i : Int) = (p : Int) := by omega
    by_cases hij : i = j
    · subst hij
      have q1 : ((i : Int) != (i : Int)) = false := by simp
      have SR := hide (swapRange_any wr g n cap base p m i hR.out hg hn (by omega) (by omega) (by omega) fv)
      clear hp
      go_wp2_with fail
      refine SR.out.mono ?_
      rintro e w2 ⟨rfl, R2, B2⟩
      replace R2 := hide R2
      replace B2 := hide (hB.out.trans B2)
      go_wp2_with fail
      go_end0
      exact ⟨rfl, R2.out, B2.out⟩
    · have q1 : ((i : Int) != (j : Int)) = true := by rw [bne_iff_ne]; omega
      by_cases hlt : j < i
      · have q2 : (j : Int) < (i : Int) := by omega
        obtain ⟨d, hd⟩ : ∃ d, i - j = d := ⟨_, rfl⟩
        have e4 : (i : Int) - (j : Int) = (d : Int) := by omega
        have SR := hide (swapRange_any wr g n cap base p m j hR.out hg hn (by omega) (by omega) (by omega) fv)
        have fin : Hid (0 < d ∧ d ≤ m ∧ d + j < i + j) := by show _ ∧ _; omega
        clear hp hd
        go_wp2_with fail
        refine SR.out.mono ?_
        rintro e w2 ⟨rfl, R2, B2⟩
        replace R2 := hide R2
        replace B2 := hide (hB.out.trans B2)
        go_wp2_with fail
        go_roundw
        case rel => exact ⟨d, j, fin.out.1, hj, fin.out.2.1, hjn, rfl, rfl, R2, B2⟩
        case measure => have := fin.out.2.2; simp [intOf]; omega
      · have q2 : ¬ (j : Int) < (i : Int) := by omega
        obtain ⟨d, hd⟩ : ∃ d, j - i = d := ⟨_, rfl⟩
        have e4 : (j : Int) - (i : Int) = (d : Int) := by omega
        obtain ⟨q, hq⟩ : ∃ q, m + j - i = q := ⟨_, rfl⟩
        have e5 : (m : Int) + (j : Int) - (i : Int) = (q : Int) := by omega
        have SR := hide (swapRange_any wr g n cap base p q i hR.out hg hn (by omega) (by omega) (by omega) fv)
        have fin : Hid (0 < d ∧ m + d ≤ n ∧ i + d < i + j) := by show _ ∧ _; omega
        clear hp hd hq
        go_wp2_with fail
        refine SR.out.mono ?_
        rintro e w2 ⟨rfl, R2, B2⟩
        replace R2 := hide R2
        replace B2 := hide (hB.out.trans B2)
        go_wp2_with fail
        go_roundw
        case rel => exact ⟨i, d, hi, fin.out.1, him, fin.out.2.1, rfl, rfl, R2, B2⟩
        case measure => have := fin.out.2.2; simp [intOf]; omega
end Go.Proofs.Ytfkjdibhnabkaaa
