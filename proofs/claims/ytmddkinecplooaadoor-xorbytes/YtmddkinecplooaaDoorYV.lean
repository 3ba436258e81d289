/-
  A list of values, written: the mathematics; xor.Bytes; the same values.
-/
import Derived.Test.YtmddkinecplooaaDoorYY
import Derived.Test.YtmddkinecplooaaDoorXJ
import Derived.BigQuiet
namespace Go.Proofs.YtmddkinecplooaaDoor
open Go.RowKit
set_option linter.unusedVariables false
set_option linter.unusedSimpArgs false

def tT (l : List Int) (i : Nat) : Nat := (l.getD i 0).toNat
def tL (l : List Int) (i : Nat) : Nat := if i = 0 then 0 else tT l (i - 1)
def wnd (l : List Int) : Nat → Nat × Nat
  | 0 => (64, 0)
  | i + 1 => (cA i (tL l i) (wnd l i).1 (wnd l i).2 (tT l i), cB i (tL l i) (wnd l i).1 (wnd l i).2 (tT l i))
def tA (l : List Int) (i : Nat) : Nat := (wnd l i).1
def tB (l : List Int) (i : Nat) : Nat := (wnd l i).2
def fB (l : List Int) (i : Nat) : Nat := cN i (tL l i) (tA l i) (tB l i) (tT l i)
def xB (l : List Int) (i : Nat) : Nat := cX i (tL l i) (tA l i) (tB l i) (tT l i)
theorem tL_next (l : List Int) (i : Nat) : tL l (i + 1) = tT l i := by unfold tL; rw [if_neg (by omega)]; simp
theorem tA_next (l : List Int) (i : Nat) : cA i (tL l i) (tA l i) (tB l i) (tT l i) = tA l (i + 1) := rfl
theorem tB_next (l : List Int) (i : Nat) : cB i (tL l i) (tA l i) (tB l i) (tT l i) = tB l (i + 1) := rfl
/-- All are values. -/
def OkV (l : List Int) : Prop := ∀ x ∈ l, 0 ≤ x ∧ x < 18446744073709551616
theorem tT_lt {l : List Int} (h : OkV l) (i : Nat) : tT l i < 18446744073709551616 := by
  unfold tT
  by_cases hi : i < l.length
  · have := h (l.getD i 0) (by simp [List.getD, List.getElem?_eq_getElem hi])
    omega
  · rw [List.getD, List.getElem?_eq_none (by omega)]; decide
theorem tT_val {l : List Int} (h : OkV l) {i : Nat} (hi : i < l.length) : l.getD i 0 = (tT l i : Int) := by
  have := h (l.getD i 0) (by simp [List.getD, List.getElem?_eq_getElem hi])
  unfold tT; omega
theorem tL_lt {l : List Int} (h : OkV l) (i : Nat) : tL l i < 18446744073709551616 := by
  unfold tL; split
  · decide
  · exact tT_lt h _
theorem okB {l : List Int} (h : OkV l) : ∀ i, i ≤ 4096 → OkS i (tA l i) (tB l i) := by
  intro i
  induction i with
  | zero => intro _; exact ⟨by omega, .inl ⟨rfl, rfl⟩⟩
  | succ i ih => intro hi; exact ok_next (ih (by omega)) (tL_lt h i) (tT_lt h i) (by omega)
theorem fB_le {l : List Int} (h : OkV l) {i : Nat} (hi : i ≤ 4096) : fB l i ≤ 78 := cN_le (okB h i hi) (tL_lt h i) (tT_lt h i)
theorem posB_le {l : List Int} (h : OkV l) : ∀ k, k ≤ 4096 → posP (fB l) k ≤ 78 * k := by
  intro k
  induction k with
  | zero => intro _; simp [posP]
  | succ k ih => intro hk; have := fB_le h (show k ≤ 4096 by omega); have := ih (by omega); simp only [posP]; omega
theorem xB_lt {l : List Int} (h : OkV l) {i : Nat} (hi : i ≤ 4096) : xB l i < 2 ^ fB l i := cX_lt (okB h i hi) (tL_lt h i) (tT_lt h i)
theorem numB_next {l : List Int} (h : OkV l) {i : Nat} (hi : i ≤ 4096) : numP (fB l) (xB l) i * 2 ^ fB l i + xB l i = numP (fB l) (xB l) (i + 1) := by
  show _ = numP (fB l) (xB l) i * 2 ^ fB l i + xB l i % 2 ^ fB l i
  rw [Nat.mod_eq_of_lt (xB_lt h hi)]
theorem take_more (l : List Int) {k : Nat} (h : k < l.length) : l.take (k + 1) = l.take k ++ [l.getD k 0] := by
  rw [List.take_add_one, List.getElem?_eq_getElem h]
  simp [List.getD, List.getElem?_eq_getElem h]
/-- What was written is read back. -/
theorem rdA_back {l lw : List Int} {n : Nat} (hv : OkV l) (hn : l.length = n) (h4 : n ≤ 4096) (hH : Holds lw (numP (fB l) (xB l) n) (posP (fB l) n)) :
    ∀ i, i ≤ n → rdA (num lw) lw.length i = some (tL l i, tA l i, tB l i, posP (fB l) i, l.take i) := by
  intro i
  induction i with
  | zero => intro _; rfl
  | succ i ih =>
    intro hi
    have h0 := ih (by omega)
    have hs := okB hv i (by omega)
    have hlo := hH.lo
    have hmo := posP_mono (fB l) (show i + 1 ≤ n from hi)
    have hp : posP (fB l) (i + 1) = posP (fB l) i + fB l i := rfl
    have hread := numP_read (fB l) (xB l) (show i < n by omega) hlo
    rw [← hH.num, Nat.mod_eq_of_lt (xB_lt hv (by omega))] at hread
    have hg := gX_of hs.w (tL_lt hv i) (tT_lt hv i) (V := num lw) (N := lw.length) (p := posP (fB l) i) (show posP (fB l) i + fB l i ≤ 8 * lw.length by omega) hread
    rw [rdA_ok h0 hg, take_more l (by omega), tT_val hv (by omega), tL_next]
    rfl

/-- What Bytes hands out. -/
def BytesT (l : List Int) (len : Nat) (w : World) (e : Ending) (w' : World) : Prop :=
  ∃ lw a n cap, Holds lw (numP (fB l) (xB l) len) (posP (fB l) len) ∧ e = .returned (.tuple #[.slice a n cap, .int .i64 0]) ∧ Has w' a n cap lw ∧ Below w.heap.size w w'

set_option maxRecDepth 100000 in
set_option maxHeartbeats 4000000 in
theorem sbytes_any (w : World) (a : Option Addr) (len cap : Nat) (l : List Int) (hl : HasU w a len cap l) (hlen : len ≤ 61) (hT : Tab w) :
    Calls Tryd.prog 28 #[.slice a len cap] w (BytesT l len w) := by
  have hpos := hide hT.pos
  have hz24 := zero24
  have hv := hide (show OkV l from hl.range)
  have hcap := hl.capb
  unfold maxLen at hcap
  have i1 : (len : Int) ≤ 61 := by omega
  have i2 : (len : Int) ≤ 4096 := by omega
  have N := hide (newWr w w.heap.size (Nat.le_refl _))
  replace hl := hide hl
  replace hT := hide hT
  unfold BytesT
  go_enter Tryd.func28, Tryd.ntmps28
  go_wp2_with fail
  refine N.out.mono ?_
  rintro e wa ⟨p, rfl, ba, Wa, -⟩
  replace ba := hide ba
  replace Wa := hide Wa
  clear N
  go_wp2_with fail
  refine (begin_any _).mono ?_
  rintro e w1 ⟨rfl, bb⟩
  have b1 := hide (ba.out.trans (bb.mono ba.out.size))
  have W1 := Wa.out.below bb (Nat.le_refl _)
  have E1 := hide ((WS.start W1 (hT.out.below b1.out) hpos.out).alloc (.cells #[.int .i64 0, .int .u64 0, .int .i64 64, .int .i64 0] 24))
  have S1 := hide (Kx.new W1 24 #[.int .i64 0, .int .u64 0, .int .i64 64, .int .i64 0])
  clear Wa W1 ba bb
  go_wp2_with fail
  go_loopw [16] (fun iv wr => ∃ (i : Nat) (v : Value), i ≤ len ∧ iv = .int .i64 (i : Int) ∧ Hid (WS w1 wr w.heap.size p (.slice none 0 0) v (numP (fB l) (xB l) i) (posP (fB l) i)) ∧ Hid (Kx wr p v w1.heap.size 24 #[.int .i64 (i : Int), .int .u64 ((tL l i : Nat) : Int), .int .i64 ((tA l i : Nat) : Int), .int .i64 ((tB l i : Nat) : Int)])) (fun iv _ => len - (intOf iv).toNat)
  case atStart => exact ⟨0, _, Nat.zero_le _, rfl, E1, S1⟩
  case round =>
    clear E1 S1
    obtain ⟨i, v, hi, rfl, E, S⟩ := hrel
    have hpo := posB_le hv.out i (by omega)
    by_cases hlt : i < len
    · have j1 : (i : Int) < (len : Int) := by omega
      obtain ⟨b, off, rfl, hb, hcs⟩ := hl.out.cells (by omega)
      have hc : wr.cell? ⟨b, off + i, none⟩ = some (.int .u64 (l.getD i 0)) := by
        have B := b1.out.trans E.out.d.bel
        exact (B.cell (p := ⟨b, off + i, none⟩) hb).trans (hcs i hlt)
      have s0 := S.out.bx.st4.c0
      have s1 := S.out.bx.st4.c1
      have s2 := S.out.bx.st4.c2
      have s3 := S.out.bx.st4.c3
      clear hcs
      have hll := hl.out.hlen
      have hs := okB hv.out i (by omega)
      have P := hide (putX E.out.wr E.out.t hpos.out hs (tL_lt hv.out i) (tT_lt hv.out i) (by omega))
      rw [tA_next, tB_next, show cN i (tL l i) (tA l i) (tB l i) (tT l i) = fB l i from rfl, show cX i (tL l i) (tA l i) (tB l i) (tT l i) = xB l i from rfl, numB_next hv.out (by omega), show posP (fB l) i + fB l i = posP (fB l) (i + 1) from rfl, ← tL_next] at P
      rw [tT_val hv.out (by omega), ← tL_next] at hc
      replace hs := hide hs
      replace hpo := hide hpo
      replace hll := hide hll
      obtain ⟨L1, hL1⟩ : ∃ x, tL l (i + 1) = x := ⟨_, rfl⟩
      obtain ⟨A1, hA1⟩ : ∃ x, tA l (i + 1) = x := ⟨_, rfl⟩
      obtain ⟨D1, hD1⟩ : ∃ x, tB l (i + 1) = x := ⟨_, rfl⟩
      obtain ⟨n1, hn1⟩ : ∃ x, i + 1 = x := ⟨_, rfl⟩
      rw [hL1] at hc
      rw [hL1, hA1, hD1, hn1] at P
      have j2 : (i : Int) + 1 = (n1 : Int) := by omega
      have j3 : n1 ≤ len := by omega
      have hLn : Hid (tL l n1 = L1 ∧ tA l n1 = A1 ∧ tB l n1 = D1) := by rw [← hn1]; exact ⟨hL1, hA1, hD1⟩
      replace hL1 := hide hL1
      replace hA1 := hide hA1
      replace hD1 := hide hD1
      replace hn1 := hide hn1
      go_wp2_with fail
      refine P.out.mono ?_
      rintro e w3 ⟨rfl, v3, W3, D3⟩
      have E3 := hide (E.out.put D3 W3)
      have S3 := hide (S.out.did D3)
      have FE := hide (E3.out.but (but_set4 w3 w1.heap.size (.int .i64 (n1 : Int)) (.int .u64 (L1 : Int)) (.int .i64 (A1 : Int)) (.int .i64 (D1 : Int))) (Nat.le_refl _) S3.out.nf)
      have FS : Hid (Kx _ p v3 w1.heap.size 24 #[.int .i64 (n1 : Int), .int .u64 (L1 : Int), .int .i64 (A1 : Int), .int .i64 (D1 : Int)]) := ⟨S3.out.bx.set4 (.int .i64 (n1 : Int)) (.int .u64 (L1 : Int)) (.int .i64 (A1 : Int)) (.int .i64 (D1 : Int)), S3.out.nf⟩
      clear P W3 D3 s0 s1 s2 s3 hc E S
      obtain ⟨r0, r1, r2, r3, r4, r5, r6, r7, r8, r9, r10⟩ := S3.out.bx.st4
      go_wp2_with fail
      go_roundw
      case rel => exact ⟨n1, v3, j3, by go_num, FE, by rw [hLn.out.1, hLn.out.2.1, hLn.out.2.2]; exact FS⟩
      case measure => simp [intOf]; omega
    · obtain rfl : i = len := by omega
      have j1 : ¬ (i : Int) < (i : Int) := by omega
      obtain ⟨lw, Hw⟩ := E.out.wr.holds
      have BY := hide (bytesWr E.out.wr (by omega) lw Hw)
      replace Hw := hide Hw
      replace hpo := hide hpo
      go_wp2_with fail
      refine BY.out.mono ?_
      rintro e w3 ⟨a3, n3, c3, rfl, H3, b3, -⟩
      have B3 := hide ((b1.out.trans E.out.d.bel).trans (b3.mono (by have := b1.out.size; have := E.out.d.bel.size; omega)))
      replace H3 := hide H3
      clear BY b3
      go_wp2_with fail
      go_ret2
      exact ⟨lw, _, _, _, Hw.out, rfl, H3.out, B3.out⟩

set_option maxHeartbeats 1000000 in
theorem same_u64s (w : World) (a a' : Option Addr) (len cap cap' : Nat) (l : List Int) (h : HasU w a len cap l) (h' : HasU w a' len cap' l) (hs : len ≤ 1000000) :
    Calls Tryd.prog 33 #[.slice a len cap, .slice a' len cap'] w fun e w' => e = .returned (.bool true) ∧ Below w.heap.size w w' := by
  have hc := hide h.cells
  have hc' := hide h'.cells
  have i1 : (len : Int) ≤ 1000000 := by omega
  clear h h'
  go_enter Tryd.func33, Tryd.ntmps33
  go_wp2_with fail
  go_loopw [5] (fun iv wr => ∃ i : Nat, i ≤ len ∧ iv = .int .i64 (i : Int) ∧ Hid (Below w.heap.size w wr)) (fun iv _ => len - (intOf iv).toNat)
  case atStart => exact ⟨0, Nat.zero_le _, rfl, Below.refl _ _⟩
  case round =>
    obtain ⟨i, hi, rfl, B⟩ := hrel
    by_cases hlt : i < len
    · have j1 : (i : Int) < (len : Int) := by omega
      have j2 : (0 : Int) ≤ (i : Int) := by omega
      obtain ⟨b, off, rfl, hb, c1⟩ := hc.out (by omega)
      obtain ⟨b', off', rfl, hb', c2⟩ := hc'.out (by omega)
      have c1i : wr.cell? ⟨b, off + i, none⟩ = some (.int .u64 (l.getD i 0)) := (B.out.cell (p := ⟨b, off + i, none⟩) hb).trans (c1 i hlt)
      have c2i : wr.cell? ⟨b', off' + i, none⟩ = some (.int .u64 (l.getD i 0)) := (B.out.cell (p := ⟨b', off' + i, none⟩) hb').trans (c2 i hlt)
      clear c1 c2
      generalize l.getD i 0 = t at *
      have j4 : i + 1 ≤ len := by omega
      go_wp2_with fail
      go_quiet (fail)
      go_wp2_with fail
      go_roundw
      case rel => exact ⟨i + 1, j4, by go_num, below_drewN B.out nq⟩
      case measure => simp [intOf]; omega
    · obtain rfl : i = len := by omega
      have j1 : ¬ (i : Int) < (i : Int) := by omega
      go_wp2_with fail
      go_ret
      exact ⟨rfl, B.out⟩
end Go.Proofs.YtmddkinecplooaaDoor
