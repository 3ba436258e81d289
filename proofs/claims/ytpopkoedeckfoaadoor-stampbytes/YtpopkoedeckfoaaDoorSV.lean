/-
  A list of times, written: the mathematics; stamp.Bytes.
-/
import Derived.Test.YtpopkoedeckfoaaDoorSY
import Derived.Test.YtpopkoedeckfoaaDoorSJ
import Derived.Test.YtpopkoedeckfoaaDoorL
namespace Go.Proofs.YtpopkoedeckfoaaDoor
open Go.RowKit
set_option linter.unusedVariables false
set_option linter.unusedSimpArgs false

def tT (l : List Int) (i : Nat) : Nat := (l.getD i 0).toNat
def tL (l : List Int) (i : Nat) : Nat := if i = 0 then 0 else tT l (i - 1)
def tD (l : List Int) (i : Nat) : Nat := if i < 2 then 0 else tT l (i - 1) - tT l (i - 2)
/-- The i-th may follow. -/
def okL (l : List Int) (i : Nat) : Prop := OkT i (tL l i) (l.getD i 0)
instance (l : List Int) (i : Nat) : Decidable (okL l i) := by unfold okL; infer_instance
theorem okL_val {l : List Int} {i : Nat} (h : okL l i) : l.getD i 0 = (tT l i : Int) ∧ tT l i ≤ 35184372088832 := by
  have h1 := h.ge; have h2 := h.le
  unfold tT; omega
theorem okL_T {l : List Int} {i : Nat} (h : okL l i) : OkT i (tL l i) (tT l i : Int) := by rw [← (okL_val h).1]; exact h
theorem okL_S {l : List Int} {i : Nat} (h : ∀ j, j < i → okL l j) (hi : i ≤ 4096) : OkS i (tL l i) (tD l i) := by
  refine ⟨hi, ?_, ?_⟩
  · unfold tL; split
    · omega
    · exact (okL_val (h (i - 1) (by omega))).2
  · unfold tD; split
    · omega
    · have := (okL_val (h (i - 1) (by omega))).2; omega
theorem tL_next (l : List Int) (i : Nat) : tL l (i + 1) = tT l i := by unfold tL; rw [if_neg (by omega)]; simp
theorem tD_next (l : List Int) (i : Nat) : dl i (tL l i) (tT l i) = tD l (i + 1) := by
  unfold dl tD
  by_cases h : i = 0
  · rw [if_pos h, if_pos (by omega)]
  · rw [if_neg h, if_neg (by omega)]
    unfold tL
    rw [if_neg h]
    rfl
def fB (l : List Int) (i : Nat) : Nat := cdN i (tL l i) (tD l i) (tT l i)
def xB (l : List Int) (i : Nat) : Nat := cdX i (tL l i) (tD l i) (tT l i)
theorem fB_le (l : List Int) (i : Nat) : fB l i ≤ 52 := cdN_le _ _ _ _
theorem posB_le (l : List Int) (k : Nat) : posP (fB l) k ≤ 52 * k := by
  induction k with
  | zero => simp [posP]
  | succ k ih => have := fB_le l k; simp only [posP]; omega
theorem numB_next {l : List Int} {i : Nat} (hs : OkS i (tL l i) (tD l i)) (ht : okL l i) : numP (fB l) (xB l) i * 2 ^ cdN i (tL l i) (tD l i) (tT l i) + cdX i (tL l i) (tD l i) (tT l i) = numP (fB l) (xB l) (i + 1) := by
  have := cdX_lt hs (okL_val ht).2
  show _ = numP (fB l) (xB l) i * 2 ^ fB l i + xB l i % 2 ^ fB l i
  rw [show xB l i % 2 ^ fB l i = xB l i from Nat.mod_eq_of_lt this]; rfl

/-- What Bytes hands out. -/
def BytesT (l : List Int) (len : Nat) (w : World) (e : Ending) (w' : World) : Prop :=
  (((∀ j, j < len → okL l j) ∧ ∃ lw a n cap, Holds lw (numP (fB l) (xB l) len) (posP (fB l) len) ∧ e = .returned (.tuple #[.slice a n cap, .int .i64 0]) ∧ Has w' a n cap lw) ∨ ((¬ ∀ j, j < len → okL l j) ∧ e = .returned (.tuple #[.slice none 0 0, .int .i64 60]))) ∧ Below w.heap.size w w'

set_option maxRecDepth 100000 in
set_option maxHeartbeats 4000000 in
theorem sbytes_any (w : World) (a : Option Addr) (len cap : Nat) (l : List Int) (hl : HasI w a len cap l) (hlen : len ≤ 61) (hT : Tab w) :
    Calls Tryd.prog 26 #[.slice a len cap] w (BytesT l len w) := by
  have hpos := hide hT.pos
  have hz23 := zero23
  have hcap := hl.capb
  unfold maxLen at hcap
  have i1 : (len : Int) ≤ 61 := by omega
  have i2 : (len : Int) ≤ 4096 := by omega
  have N := hide (newWr w w.heap.size (Nat.le_refl _))
  replace hl := hide hl
  replace hT := hide hT
  unfold BytesT
  go_enter Tryd.func26, Tryd.ntmps26
  go_wp2_with fail
  refine N.out.mono ?_
  rintro e w1 ⟨p, rfl, b1, W1, hn1⟩
  have T1 := hide (hT.out.kept b1 hpos.out)
  have D1 : Did w1 w1 w.heap.size p (.slice none 0 0) (.slice none 0 0) := ⟨Below.refl _ _, But.refl _ _, fun _ _ h => h⟩
  have E1 := hide (WB.start D1 W1 T1.out hpos.out (.int .i64 0) (.int .i64 0) (.int .i64 0) rfl)
  replace b1 := hide b1
  clear N W1 hn1 D1 T1
  go_wp2_with fail
  go_loopw [16] (fun iv wr => ∃ (i : Nat) (v : Value), i ≤ len ∧ iv = .int .i64 (i : Int) ∧ Hid (∀ j, j < i → okL l j) ∧ Hid (WB w1 wr w.heap.size p w1.heap.size (.slice none 0 0) v (numP (fB l) (xB l) i) (posP (fB l) i) (.int .i64 (i : Int)) (.int .i64 ((tL l i : Nat) : Int)) (.int .i64 ((tD l i : Nat) : Int)))) (fun iv _ => len - (intOf iv).toNat)
  case atStart => exact ⟨0, _, Nat.zero_le _, rfl, (fun j hj => by omega), E1⟩
  case round =>
    clear E1
    obtain ⟨i, v, hi, rfl, hok, E⟩ := hrel
    by_cases hlt : i < len
    · have j1 : (i : Int) < (len : Int) := by omega
      obtain ⟨b, off, rfl, hb, hcs⟩ := hl.out.cells (by omega)
      have hc : wr.cell? ⟨b, off + i, none⟩ = some (.int .i64 (l.getD i 0)) := by
        have B := b1.out.trans E.out.d.bel
        exact (B.cell (p := ⟨b, off + i, none⟩) hb).trans (hcs i hlt)
      have s0 := E.out.s.c0
      have s1 := E.out.s.c1
      have s2 := E.out.s.c2
      clear hcs
      have hs := okL_S hok.out (show i ≤ 4096 by omega)
      have hpo := posB_le l i
      by_cases hti : okL l i
      · have P := hide (putS E.out.wr E.out.t hpos.out hs (okL_T hti) (by omega))
        have hA := numB_next hs hti
        have hD := tD_next l i
        have hL := tL_next l i
        have hN : posP (fB l) i + cdN i (tL l i) (tD l i) (tT l i) = posP (fB l) (i + 1) := rfl
        rw [hA, hN, hD, ← hL] at P
        rw [(okL_val hti).1, ← hL] at hc
        have hok' : Hid (∀ j, j < i + 1 → okL l j) := fun j hj => by
          rcases Nat.lt_or_ge j i with h | h
          · exact hok.out j h
          · obtain rfl : j = i := by omega
            exact hti
        replace hs := hide hs
        replace hti := hide hti
        replace hpo := hide hpo
        replace hA := hide hA
        replace hD := hide hD
        replace hL := hide hL
        replace hN := hide hN
        obtain ⟨L1, hL1⟩ : ∃ x, tL l (i + 1) = x := ⟨_, rfl⟩
        obtain ⟨D1, hD1⟩ : ∃ x, tD l (i + 1) = x := ⟨_, rfl⟩
        obtain ⟨n1, hn1⟩ : ∃ x, i + 1 = x := ⟨_, rfl⟩
        rw [hL1] at hc
        rw [hL1, hD1, hn1] at P
        rw [hn1] at hok'
        have j2 : (i : Int) + 1 = (n1 : Int) := by omega
        have j3 : n1 ≤ len := by omega
        have hLn : Hid (tL l n1 = L1 ∧ tD l n1 = D1) := by rw [← hn1]; exact ⟨hL1, hD1⟩
        replace hL1 := hide hL1
        replace hD1 := hide hD1
        replace hn1 := hide hn1
        go_wp2_with fail
        refine P.out.mono ?_
        rintro e w3 ⟨rfl, v3, W3, D3⟩
        have E3 := hide (E.out.put D3 W3)
        have FIN := hide (E3.out.set (Nat.le_refl _) (.int .i64 (n1 : Int)) (.int .i64 (L1 : Int)) (.int .i64 (D1 : Int)))
        clear P W3 D3 s0 s1 s2 hc E
        obtain ⟨r0, r1, r2, r3, r4, r5, r6⟩ := E3.out.s
        have r7 := E3.out.s.o1
        have r8 := E3.out.s.o2
        go_wp2_with fail
        go_roundw
        case rel => exact ⟨n1, v3, j3, by go_num, hok', by rw [hLn.out.1, hLn.out.2]; exact FIN⟩
        case measure => simp [intOf]; omega
      · have hno : Hid (¬ ∀ j, j < len → okL l j) := fun h => hti (h i hlt)
        have hbad : (okSI (i : Int) ((tL l i : Nat) : Int) ((tD l i : Nat) : Int) && okTI (i : Int) ((tL l i : Nat) : Int) (l.getD i 0)) = false := by
          cases h : okTI (i : Int) ((tL l i : Nat) : Int) (l.getD i 0)
          · simp
          · exact absurd (okT_of h) hti
        have P := hide (putS_no E.out.wr E.out.t hpos.out _ _ _ _ hbad (by omega))
        replace hs := hide hs
        replace hti := hide hti
        replace hpo := hide hpo
        clear hbad
        generalize l.getD i 0 = ti at *
        generalize tL l i = L0 at *
        generalize tD l i = D0 at *
        go_wp2_with fail
        refine P.out.mono ?_
        rintro e w3 ⟨rfl, v3, W3, D3⟩
        have E3 := hide (E.out.put D3 W3)
        have FIN := hide (E3.out.set (Nat.le_refl _) (.int .i64 0) (.int .i64 0) (.int .i64 0))
        clear P W3 D3 s0 s1 s2 hc E
        obtain ⟨r0, r1, r2, r3, r4, r5, r6⟩ := E3.out.s
        have r7 := E3.out.s.o1
        have r8 := E3.out.s.o2
        go_wp2_with fail
        go_ret2
        exact ⟨.inr ⟨hno.out, rfl⟩, b1.out.trans FIN.out.d.bel⟩
    · obtain rfl : i = len := by omega
      have j1 : ¬ (i : Int) < (i : Int) := by omega
      obtain ⟨lw, Hw⟩ := E.out.wr.holds
      have hpo := posB_le l i
      have BY := hide (bytesWr E.out.wr (by omega) lw Hw)
      replace Hw := hide Hw
      replace hpo := hide hpo
      go_wp2_with fail
      refine BY.out.mono ?_
      rintro e w3 ⟨a3, n3, c3, rfl, H3, b3, -⟩
      have B3 := hide ((b1.out.trans E.out.d.bel).trans (b3.mono (by have := b1.out.size; have := E.out.d.bel.size; omega)))
      replace H3 := hide H3
      clear BY b3
      go_wp2_with fail
      go_ret2
      exact ⟨.inl ⟨hok.out, lw, _, _, _, Hw.out, rfl, H3.out⟩, B3.out⟩
end Go.Proofs.YtpopkoedeckfoaaDoor
