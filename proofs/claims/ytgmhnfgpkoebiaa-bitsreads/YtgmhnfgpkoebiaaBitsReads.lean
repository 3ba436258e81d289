/-
  Proved: BitsReads answers true for all inputs. No other condition.
-/
import Derived.Test.YtgmhnfgpkoebiaaRows
import Derived.Test.YtgmhnfgpkoebiaaI
import Derived.Test.YtgmhnfgpkoebiaaJ
import Derived.Test.YtgmhnfgpkoebiaaK
import Derived.Test.YtgmhnfgpkoebiaaL
import Derived.Test.YtgmhnfgpkoebiaaM
import Derived.ShutString
import Derived.ChangeOld
import Derived.Below
namespace Go.Proofs.Ytgmhnfgpkoebiaa.bitsReads
open Go.ChangeShapes Go.WideShapes Go.ChangeAt Go.RowKit
open Go.ChangeMaps (open_string shut_string)
set_option linter.unusedVariables false

set_option maxHeartbeats 600000 in
theorem walk_few (a0 : Option Addr) (len0 cap0 nb : Nat) (lb : List Int) (b off : Nat) (len cap : Nat) (li : List Int) (w : World) (HB : Has w a0 nb cap0 lb) (hnb : nb ≤ 300) (hle0 : len0 ≤ cap0) (hcb0 : cap0 ≤ maxLen) (ek : (if (300 : Int) < (len0 : Int) then 300 else (len0 : Int)) = (nb : Int)) (H : HasI w (some ⟨b, off, none⟩) len cap li) (h0 : 0 < len) (h1 : len ≤ 100) :
    Calls Try.prog 4 #[.slice a0 len0 cap0, .slice (some ⟨b, off, none⟩) len cap] w fun e w' => e = .returned (.bool true) ∧ Below w.heap.size w w' := by
  have hle := H.le
  have hcb := H.capb
  have hle1 : (nb : Int) ≤ (cap0 : Int) := by have := HB.le; omega
  have hnb2 : (nb : Int) ≤ 300 := by omega
  unfold maxLen at hcb hcb0
  have hblt : Hid (b < w.heap.size) := by obtain ⟨b', off', e, h1, _⟩ := H.cells (by omega); cases e; exact h1
  replace H := hide H
  have hlb : Hid (lb.length = nb) := HB.hlen
  have hap : Hid (0 < nb → ∀ b off, a0 = some ⟨b, off, none⟩ → b < w.heap.size) := fun h0 b off e => by
    obtain ⟨b', off', e', h1, _⟩ := HB.cells h0
    rw [e] at e'
    cases e'
    exact h1
  replace HB := hide HB
  go_enter Try.func4, Try.ntmps4
  go_wp2_with fail
  refine (bytes_any _ _ _ _ lb HB.out (by omega)).mono ?_
  rintro e w1 ⟨a1', n1, c1', rfl, H1, B1, -⟩
  obtain rfl : nb = n1 := by have h1 := H1.hlen; have h2 := hlb.out; omega
  go_wp2_with fail
  refine (newRd _ w.heap.size B1.size _ _ _ lb H1 (by omega)).mono ?_
  rintro e w2 ⟨q, vq, rfl, B2, R2, -⟩
  have b2 := B1.trans (B2.mono B1.size)
  have N3 : Hid (¬ fp q vq w2.heap.size) := fun h => by have := (R2.1.fplt _ h).2; omega
  replace R2 := hide R2
  clear B1 B2 H1
  go_wp2_with fail
  obtain ⟨w3, hw3⟩ : ∃ w3, w2.alloc (.cells #[.slice a0 nb cap0, .int .i64 0] 46) = w3 := ⟨_, rfl⟩
  have F3 : Hid (Ref w3 w.heap.size w2.heap.size a0 nb cap0 0) := by rw [← hw3]; exact ⟨heap_alloc_new w2 _, b2.size⟩
  have R3 : Hid (Rd w3 w.heap.size q vq lb 0) := by rw [← hw3]; exact ⟨R2.out.1.alloc _, R2.out.2⟩
  have b3 : Hid (Below w.heap.size w w3) := by rw [← hw3]; exact b2.alloc b2.size _
  rw [hw3]
  clear hw3 R2 b2
  generalize w2.heap.size = r at *
  go_loopw [7] (fun i wr => ∃ (k P : Nat), k ≤ len ∧ i = .int .i64 (k : Int) ∧ P ≤ 8 * nb ∧ Hid (Rd wr w.heap.size q vq lb P) ∧ Hid (Ref wr w.heap.size r a0 nb cap0 P) ∧ Hid (Below w.heap.size w wr)) (fun i _ => len - (intOf i).toNat)
  case atStart => exact ⟨0, 0, Nat.zero_le _, rfl, Nat.zero_le _, R3, F3, b3⟩
  case round =>
    clear R3 F3 b3
    obtain ⟨k, P, hk, rfl, hP, R, F, B⟩ := hrel
    by_cases hkl : k < len
    · have hk1 : (k : Int) < (len : Int) := by omega
      have hk2 : (k : Int) < 100 := by omega
      have c1 := H.out.look B.out k (by omega)
      generalize iC li k = C at *
      by_cases hC : 0 ≤ C ∧ C ≤ 64
      · obtain ⟨N, rfl⟩ := Int.eq_ofNat_of_zero_le hC.1
        have hn : N ≤ 64 := by omega
        by_cases hroom : P + N ≤ 8 * nb
        · have GE := hide (getRd R.out N hn (by rw [hlb.out]; exact hroom))
          rw [hlb.out] at GE
          have hQ : (P + N : Nat) ≤ 2400 := by omega
          go_wp2_with fail
          refine GE.out.mono ?_
          rintro e w6 ⟨rfl, R6, D6⟩
          have F6 := hide (F.out.kept D6.but N3.out)
          have B6 := hide (B.out.trans D6.bel)
          have RG := hide (rget_ok F6.out (HB.out.kept B6.out (Nat.le_refl _)) hap.out hnb N hn hroom)
          replace R6 := hide R6
          clear D6 GE
          have c6 : w6.cell? ⟨b, off + k, none⟩ = some (.int .i64 (N : Int)) := (B6.out.cell (p := ⟨b, off + k, none⟩) hblt.out).trans ((B.out.cell (p := ⟨b, off + k, none⟩) hblt.out).symm.trans c1)
          clear R F B c1
          generalize rd (num lb) nb P N = X at *
          go_wp2_with fail
          refine RG.out.mono ?_
          rintro e w7 ⟨rfl, F7, D7⟩
          have R7 := hide (show Rd w7 w.heap.size q vq lb (P + N) from ⟨R6.out.1.kept D7 (fun k hk h => N3.out (hk ▸ h)), R6.out.2⟩)
          have B7 := hide (B6.out.trans (F6.out.bel D7))
          replace F7 := hide F7
          clear D7 RG R6 F6 B6 c6
          obtain ⟨Q, eQ⟩ : ∃ Q, P + N = Q := ⟨_, rfl⟩
          rw [eQ] at R7 F7 hQ hroom
          have AT := hide (fun j => atRd (R7.out.drewN j))
          have LF := hide (fun j => leftRd (R7.out.drewN j))
          rw [hlb.out, show ((8 * nb - (Q) : Nat) : Int) = 8 * (nb : Int) - ((Q : Nat) : Int) by omega] at LF
          have f1 := F7.out.c1
          go_wp2_with fail
          go_quiet ((first
            | (go_at_call 21; exact Calls.quiet_of_same (AT.out _))
            | (go_at_call 22; exact Calls.quiet_of (LF.out _))))
          go_wp2_with fail
          go_roundw
          case rel => exact ⟨k + 1, Q, by omega, by go_num, hroom, R7.out.drewN _, F7.out.drewN _, below_drewN B7.out _⟩
          case measure => simp [intOf]; omega
        · have GE := hide (getRdBits R.out N hn (by rw [hlb.out]; omega))
          have RG := hide (fun j => rget_bits (F.out.drewN j) hnb N hn hP (by omega))
          have hQ : P ≤ 2400 := by omega
          go_wp2_with fail
          refine GE.out.mono ?_
          rintro e w6 ⟨rfl, j, rfl⟩
          go_wp2_with fail
          refine (RG.out j).mono ?_
          rintro e w7 ⟨rfl, j2, rfl⟩
          have R7 := hide ((R.out.drewN j).drewN j2)
          have F7 := hide ((F.out.drewN j).drewN j2)
          have B7 := hide (below_drewN (below_drewN B.out j) j2)
          obtain ⟨w7, hw7⟩ : ∃ w7, (wr.drewN j).drewN j2 = w7 := ⟨_, rfl⟩
          rw [hw7] at R7 F7 B7 ⊢
          clear hw7 R F B GE RG c1
          have AT := hide (fun j => atRd (R7.out.drewN j))
          have LF := hide (fun j => leftRd (R7.out.drewN j))
          rw [hlb.out, show ((8 * nb - (P) : Nat) : Int) = 8 * (nb : Int) - ((P : Nat) : Int) by omega] at LF
          have f1 := F7.out.c1
          go_wp2_with fail
          go_quiet ((first
            | (go_at_call 21; exact Calls.quiet_of_same (AT.out _))
            | (go_at_call 22; exact Calls.quiet_of (LF.out _))))
          go_wp2_with fail
          go_roundw
          case rel => exact ⟨k + 1, P, by omega, by go_num, hP, R7.out.drewN _, F7.out.drewN _, below_drewN B7.out _⟩
          case measure => simp [intOf]; omega
      · have GE := hide (get_arg R.out.1 C hC)
        have RG := hide (rget_arg (w := wr) (p := r) C hC)
        have hQ : P ≤ 2400 := by omega
        have R7 := R
        have F7 := F
        have B7 := B
        go_wp2_with fail
        refine GE.out.mono ?_
        rintro e w6 ⟨rfl, rfl⟩
        go_wp2_with fail
        refine RG.out.mono ?_
        rintro e w7 ⟨rfl, rfl⟩
        have AT := hide (fun j => atRd (R7.out.drewN j))
        have LF := hide (fun j => leftRd (R7.out.drewN j))
        rw [hlb.out, show ((8 * nb - (P) : Nat) : Int) = 8 * (nb : Int) - ((P : Nat) : Int) by omega] at LF
        have f1 := F7.out.c1
        go_wp2_with fail
        go_quiet ((first
          | (go_at_call 21; exact Calls.quiet_of_same (AT.out _))
          | (go_at_call 22; exact Calls.quiet_of (LF.out _))))
        go_wp2_with fail
        go_roundw
        case rel => exact ⟨k + 1, P, by omega, by go_num, hP, R7.out.drewN _, F7.out.drewN _, below_drewN B7.out _⟩
        case measure => simp [intOf]; omega
    · obtain rfl : len = k := by omega
      go_wp2_with fail
      refine (works_any _).mono ?_
      rintro e w9 ⟨rfl, B9⟩
      go_wp2_with fail
      go_ret
      exact ⟨rfl, B.out.trans (B9.mono B.out.size)⟩

set_option maxHeartbeats 600000 in
theorem walk_many (a0 : Option Addr) (len0 cap0 nb : Nat) (lb : List Int) (b off : Nat) (len cap : Nat) (li : List Int) (w : World) (HB : Has w a0 nb cap0 lb) (hnb : nb ≤ 300) (hle0 : len0 ≤ cap0) (hcb0 : cap0 ≤ maxLen) (ek : (if (300 : Int) < (len0 : Int) then 300 else (len0 : Int)) = (nb : Int)) (H : HasI w (some ⟨b, off, none⟩) len cap li) (h1 : 100 < len) :
    Calls Try.prog 4 #[.slice a0 len0 cap0, .slice (some ⟨b, off, none⟩) len cap] w fun e w' => e = .returned (.bool true) ∧ Below w.heap.size w w' := by
  have hle := H.le
  have hcb := H.capb
  have hle1 : (nb : Int) ≤ (cap0 : Int) := by have := HB.le; omega
  have hnb2 : (nb : Int) ≤ 300 := by omega
  unfold maxLen at hcb hcb0
  have hblt : Hid (b < w.heap.size) := by obtain ⟨b', off', e, h1, _⟩ := H.cells (by omega); cases e; exact h1
  replace H := hide H
  have hlb : Hid (lb.length = nb) := HB.hlen
  have hap : Hid (0 < nb → ∀ b off, a0 = some ⟨b, off, none⟩ → b < w.heap.size) := fun h0 b off e => by
    obtain ⟨b', off', e', h1, _⟩ := HB.cells h0
    rw [e] at e'
    cases e'
    exact h1
  replace HB := hide HB
  go_enter Try.func4, Try.ntmps4
  go_wp2_with fail
  refine (bytes_any _ _ _ _ lb HB.out (by omega)).mono ?_
  rintro e w1 ⟨a1', n1, c1', rfl, H1, B1, -⟩
  obtain rfl : nb = n1 := by have h1 := H1.hlen; have h2 := hlb.out; omega
  go_wp2_with fail
  refine (newRd _ w.heap.size B1.size _ _ _ lb H1 (by omega)).mono ?_
  rintro e w2 ⟨q, vq, rfl, B2, R2, -⟩
  have b2 := B1.trans (B2.mono B1.size)
  have N3 : Hid (¬ fp q vq w2.heap.size) := fun h => by have := (R2.1.fplt _ h).2; omega
  replace R2 := hide R2
  clear B1 B2 H1
  go_wp2_with fail
  obtain ⟨w3, hw3⟩ : ∃ w3, w2.alloc (.cells #[.slice a0 nb cap0, .int .i64 0] 46) = w3 := ⟨_, rfl⟩
  have F3 : Hid (Ref w3 w.heap.size w2.heap.size a0 nb cap0 0) := by rw [← hw3]; exact ⟨heap_alloc_new w2 _, b2.size⟩
  have R3 : Hid (Rd w3 w.heap.size q vq lb 0) := by rw [← hw3]; exact ⟨R2.out.1.alloc _, R2.out.2⟩
  have b3 : Hid (Below w.heap.size w w3) := by rw [← hw3]; exact b2.alloc b2.size _
  rw [hw3]
  clear hw3 R2 b2
  generalize w2.heap.size = r at *
  go_loopw [7] (fun i wr => ∃ (k P : Nat), k ≤ 100 ∧ i = .int .i64 (k : Int) ∧ P ≤ 8 * nb ∧ Hid (Rd wr w.heap.size q vq lb P) ∧ Hid (Ref wr w.heap.size r a0 nb cap0 P) ∧ Hid (Below w.heap.size w wr)) (fun i _ => 100 - (intOf i).toNat)
  case atStart => exact ⟨0, 0, Nat.zero_le _, rfl, Nat.zero_le _, R3, F3, b3⟩
  case round =>
    clear R3 F3 b3
    obtain ⟨k, P, hk, rfl, hP, R, F, B⟩ := hrel
    by_cases hkl : k < 100
    · have hk1 : (k : Int) < (len : Int) := by omega
      have hk2 : (k : Int) < 100 := by omega
      have c1 := H.out.look B.out k (by omega)
      generalize iC li k = C at *
      by_cases hC : 0 ≤ C ∧ C ≤ 64
      · obtain ⟨N, rfl⟩ := Int.eq_ofNat_of_zero_le hC.1
        have hn : N ≤ 64 := by omega
        by_cases hroom : P + N ≤ 8 * nb
        · have GE := hide (getRd R.out N hn (by rw [hlb.out]; exact hroom))
          rw [hlb.out] at GE
          have hQ : (P + N : Nat) ≤ 2400 := by omega
          go_wp2_with fail
          refine GE.out.mono ?_
          rintro e w6 ⟨rfl, R6, D6⟩
          have F6 := hide (F.out.kept D6.but N3.out)
          have B6 := hide (B.out.trans D6.bel)
          have RG := hide (rget_ok F6.out (HB.out.kept B6.out (Nat.le_refl _)) hap.out hnb N hn hroom)
          replace R6 := hide R6
          clear D6 GE
          have c6 : w6.cell? ⟨b, off + k, none⟩ = some (.int .i64 (N : Int)) := (B6.out.cell (p := ⟨b, off + k, none⟩) hblt.out).trans ((B.out.cell (p := ⟨b, off + k, none⟩) hblt.out).symm.trans c1)
          clear R F B c1
          generalize rd (num lb) nb P N = X at *
          go_wp2_with fail
          refine RG.out.mono ?_
          rintro e w7 ⟨rfl, F7, D7⟩
          have R7 := hide (show Rd w7 w.heap.size q vq lb (P + N) from ⟨R6.out.1.kept D7 (fun k hk h => N3.out (hk ▸ h)), R6.out.2⟩)
          have B7 := hide (B6.out.trans (F6.out.bel D7))
          replace F7 := hide F7
          clear D7 RG R6 F6 B6 c6
          obtain ⟨Q, eQ⟩ : ∃ Q, P + N = Q := ⟨_, rfl⟩
          rw [eQ] at R7 F7 hQ hroom
          have AT := hide (fun j => atRd (R7.out.drewN j))
          have LF := hide (fun j => leftRd (R7.out.drewN j))
          rw [hlb.out, show ((8 * nb - (Q) : Nat) : Int) = 8 * (nb : Int) - ((Q : Nat) : Int) by omega] at LF
          have f1 := F7.out.c1
          go_wp2_with fail
          go_quiet ((first
            | (go_at_call 21; exact Calls.quiet_of_same (AT.out _))
            | (go_at_call 22; exact Calls.quiet_of (LF.out _))))
          go_wp2_with fail
          go_roundw
          case rel => exact ⟨k + 1, Q, by omega, by go_num, hroom, R7.out.drewN _, F7.out.drewN _, below_drewN B7.out _⟩
          case measure => simp [intOf]; omega
        · have GE := hide (getRdBits R.out N hn (by rw [hlb.out]; omega))
          have RG := hide (fun j => rget_bits (F.out.drewN j) hnb N hn hP (by omega))
          have hQ : P ≤ 2400 := by omega
          go_wp2_with fail
          refine GE.out.mono ?_
          rintro e w6 ⟨rfl, j, rfl⟩
          go_wp2_with fail
          refine (RG.out j).mono ?_
          rintro e w7 ⟨rfl, j2, rfl⟩
          have R7 := hide ((R.out.drewN j).drewN j2)
          have F7 := hide ((F.out.drewN j).drewN j2)
          have B7 := hide (below_drewN (below_drewN B.out j) j2)
          obtain ⟨w7, hw7⟩ : ∃ w7, (wr.drewN j).drewN j2 = w7 := ⟨_, rfl⟩
          rw [hw7] at R7 F7 B7 ⊢
          clear hw7 R F B GE RG c1
          have AT := hide (fun j => atRd (R7.out.drewN j))
          have LF := hide (fun j => leftRd (R7.out.drewN j))
          rw [hlb.out, show ((8 * nb - (P) : Nat) : Int) = 8 * (nb : Int) - ((P : Nat) : Int) by omega] at LF
          have f1 := F7.out.c1
          go_wp2_with fail
          go_quiet ((first
            | (go_at_call 21; exact Calls.quiet_of_same (AT.out _))
            | (go_at_call 22; exact Calls.quiet_of (LF.out _))))
          go_wp2_with fail
          go_roundw
          case rel => exact ⟨k + 1, P, by omega, by go_num, hP, R7.out.drewN _, F7.out.drewN _, below_drewN B7.out _⟩
          case measure => simp [intOf]; omega
      · have GE := hide (get_arg R.out.1 C hC)
        have RG := hide (rget_arg (w := wr) (p := r) C hC)
        have hQ : P ≤ 2400 := by omega
        have R7 := R
        have F7 := F
        have B7 := B
        go_wp2_with fail
        refine GE.out.mono ?_
        rintro e w6 ⟨rfl, rfl⟩
        go_wp2_with fail
        refine RG.out.mono ?_
        rintro e w7 ⟨rfl, rfl⟩
        have AT := hide (fun j => atRd (R7.out.drewN j))
        have LF := hide (fun j => leftRd (R7.out.drewN j))
        rw [hlb.out, show ((8 * nb - (P) : Nat) : Int) = 8 * (nb : Int) - ((P : Nat) : Int) by omega] at LF
        have f1 := F7.out.c1
        go_wp2_with fail
        go_quiet ((first
          | (go_at_call 21; exact Calls.quiet_of_same (AT.out _))
          | (go_at_call 22; exact Calls.quiet_of (LF.out _))))
        go_wp2_with fail
        go_roundw
        case rel => exact ⟨k + 1, P, by omega, by go_num, hP, R7.out.drewN _, F7.out.drewN _, below_drewN B7.out _⟩
        case measure => simp [intOf]; omega
    · obtain rfl : 100 = k := by omega
      have hk1 : (100 : Int) < (len : Int) := by omega
      simp only [show ((100 : Nat) : Int) = 100 from rfl]
      go_wp2_with fail
      refine (works_any _).mono ?_
      rintro e w9 ⟨rfl, B9⟩
      go_wp2_with fail
      go_ret
      exact ⟨rfl, B.out.trans (B9.mono B.out.size)⟩

set_option maxHeartbeats 600000 in
theorem walk_none (a0 : Option Addr) (len0 cap0 nb : Nat) (lb : List Int) (a1 : Option Addr) (len cap : Nat) (li : List Int) (w : World) (HB : Has w a0 nb cap0 lb) (hnb : nb ≤ 300) (hle0 : len0 ≤ cap0) (hcb0 : cap0 ≤ maxLen) (ek : (if (300 : Int) < (len0 : Int) then 300 else (len0 : Int)) = (nb : Int)) (H : HasI w (a1) len cap li) (h1 : len = 0) :
    Calls Try.prog 4 #[.slice a0 len0 cap0, .slice (a1) len cap] w fun e w' => e = .returned (.bool true) ∧ Below w.heap.size w w' := by
  have hle := H.le
  have hcb := H.capb
  have hle1 : (nb : Int) ≤ (cap0 : Int) := by have := HB.le; omega
  have hnb2 : (nb : Int) ≤ 300 := by omega
  unfold maxLen at hcb hcb0
  replace H := hide H
  have hlb : Hid (lb.length = nb) := HB.hlen
  have hap : Hid (0 < nb → ∀ b off, a0 = some ⟨b, off, none⟩ → b < w.heap.size) := fun h0 b off e => by
    obtain ⟨b', off', e', h1, _⟩ := HB.cells h0
    rw [e] at e'
    cases e'
    exact h1
  replace HB := hide HB
  go_enter Try.func4, Try.ntmps4
  go_wp2_with fail
  refine (bytes_any _ _ _ _ lb HB.out (by omega)).mono ?_
  rintro e w1 ⟨a1', n1, c1', rfl, H1, B1, -⟩
  obtain rfl : nb = n1 := by have h1 := H1.hlen; have h2 := hlb.out; omega
  go_wp2_with fail
  refine (newRd _ w.heap.size B1.size _ _ _ lb H1 (by omega)).mono ?_
  rintro e w2 ⟨q, vq, rfl, B2, R2, -⟩
  have b2 := B1.trans (B2.mono B1.size)
  have N3 : Hid (¬ fp q vq w2.heap.size) := fun h => by have := (R2.1.fplt _ h).2; omega
  replace R2 := hide R2
  clear B1 B2 H1
  go_wp2_with fail
  obtain ⟨w3, hw3⟩ : ∃ w3, w2.alloc (.cells #[.slice a0 nb cap0, .int .i64 0] 46) = w3 := ⟨_, rfl⟩
  have F3 : Hid (Ref w3 w.heap.size w2.heap.size a0 nb cap0 0) := by rw [← hw3]; exact ⟨heap_alloc_new w2 _, b2.size⟩
  have R3 : Hid (Rd w3 w.heap.size q vq lb 0) := by rw [← hw3]; exact ⟨R2.out.1.alloc _, R2.out.2⟩
  have b3 : Hid (Below w.heap.size w w3) := by rw [← hw3]; exact b2.alloc b2.size _
  rw [hw3]
  clear hw3 R2 b2
  generalize w2.heap.size = r at *
  go_loopw [7] (fun i wr => ∃ (k P : Nat), k ≤ 0 ∧ i = .int .i64 (k : Int) ∧ P ≤ 8 * nb ∧ Hid (Rd wr w.heap.size q vq lb P) ∧ Hid (Ref wr w.heap.size r a0 nb cap0 P) ∧ Hid (Below w.heap.size w wr)) (fun i _ => 0 - (intOf i).toNat)
  case atStart => exact ⟨0, 0, Nat.zero_le _, rfl, Nat.zero_le _, R3, F3, b3⟩
  case round =>
    clear R3 F3 b3
    obtain ⟨k, P, hk, rfl, hP, R, F, B⟩ := hrel
    by_cases hkl : k < 0
    · omega
    · obtain rfl : 0 = k := by omega
      simp only [show ((0 : Nat) : Int) = 0 from rfl]
      go_wp2_with fail
      refine (works_any _).mono ?_
      rintro e w9 ⟨rfl, B9⟩
      go_wp2_with fail
      go_ret
      exact ⟨rfl, B.out.trans (B9.mono B.out.size)⟩

theorem walk (a0 : Option Addr) (len0 cap0 : Nat) (l0 : List Int) (a1 : Option Addr) (len1 cap1 : Nat) (l1 : List Int) (w : World) (HB : Has w a0 len0 cap0 l0) (H : HasI w a1 len1 cap1 l1) :
    Calls Try.prog 4 #[.slice a0 len0 cap0, .slice a1 len1 cap1] w fun e w' => e = .returned (.bool true) ∧ Below w.heap.size w w' := by
  have ek : (if (300 : Int) < (len0 : Int) then 300 else (len0 : Int)) = ((min len0 300 : Nat) : Int) := by split <;> omega
  have hf := HB.front (min len0 300) (by omega)
  by_cases h0 : len1 = 0
  · exact walk_none a0 len0 cap0 _ _ a1 len1 cap1 l1 w hf (by omega) HB.le HB.capb ek H h0
  · obtain ⟨b, off, rfl, _⟩ := H.cells (by omega)
    by_cases h1 : len1 ≤ 100
    · exact walk_few a0 len0 cap0 _ _ b off len1 cap1 l1 w hf (by omega) HB.le HB.capb ek H (by omega) h1
    · exact walk_many a0 len0 cap0 _ _ b off len1 cap1 l1 w hf (by omega) HB.le HB.capb ek H (by omega)


set_option maxRecDepth 100000 in
theorem lifted (os : Os) (started : os.Started) (H : Type) (enc : TypeId × Value → H) :
    ReturnsInHanded {} Try.checked os 4 .any (Rows.bitsReadsSpec.pre6 enc Try.prog Try.f4 Rows.bitsReadsRow.domain false) (Rows.bitsReadsSpec.post enc Try.prog Try.f4 false true false false) := by
  refine returnsInHanded_of_change (C := Try.checked) own started (by kernel_rfl) Try.func4
    (ChangeSpec.witness6 (enc := enc) (C := Try.checked) false ⟨#[], #[.slice none 0 0, .slice none 0 0], []⟩ 8 (by kernel_rfl) (by kernel_rfl) (by kernel_rfl) (by kernel_rfl)) ?_
  intro W base args ds gs before hval0 hW hcnd _
  have hval : ∀ (j : Nat) t v, Try.f4.params[j]? = some t → args[j]? = some v → Value.okWide Try.prog W .any base t v := hval0
  have hW' := hW
  obtain ⟨p, q, hA0, hV, rfl, hfz, hnd⟩ := hW
  have hA : DataW.TrodAll enc Try.prog W 0 (fun _ => true) true Try.f4.params.toList args.toList ds p := hA0
  rw [Try.params4] at hA hval
  obtain ⟨v0, vs0, d0, ds0, p0, q0, hargs, rfl, rfl, h0, r0⟩ := trodAll_cons hA
  obtain ⟨v1, vs1, d1, ds1, p1, q1, rfl, rfl, rfl, h1, r1⟩ := trodAll_cons r0
  obtain ⟨rfl, rfl, rfl⟩ := trodAll_nil r1
  obtain rfl : args = #[v0, v1] := by cases args; simp_all
  obtain ⟨rfl, rfl⟩ := trodVars_none hV
  obtain ⟨a0, len0, cap0, rfl⟩ := okWide_slice Try.underlying36 (hval 0 36 v0 rfl rfl)
  have k0 := h0
  have lt0 : ∀ x ∈ p0, x.block < W.heap.size := by obtain ⟨m, hm⟩ := k0; exact DataW.trod_lt m _ _ _ hm
  obtain ⟨l0, w0⟩ := came_bytes h0
  obtain ⟨a1, len1, cap1, rfl⟩ := okWide_slice Try.underlying40 (hval 1 40 v1 rfl rfl)
  have k1 := h1
  have lt1 : ∀ x ∈ p1, x.block < W.heap.size := by obtain ⟨m, hm⟩ := k1; exact DataW.trod_lt m _ _ _ hm
  obtain ⟨l1, w1⟩ := came_ints h1
  clear hA0 hval0
  refine (walk a0 len0 cap0 l0 a1 len1 cap1 l1 W w0 w1).mono fun e W' ⟨he, bel⟩ => ?_
  subst he
  exact ⟨_, rfl, _, _, _, [], _, [], hW', trodAll_mk1 (shut_bool Try.underlying4 _), (trodAll_cons_mk (Below.trod laidOut (by kernel_rfl) (of_decide_eq_true (by kernel_rfl)) k0 bel lt0) (trodAll_cons_mk (Below.trod laidOut (by kernel_rfl) (of_decide_eq_true (by kernel_rfl)) k1 bel lt1) trodAll_mk0)), rfl, bel.frame _, fun h => by cases h⟩

theorem over : Rows.bitsReadsRow.holds Try.pinned (OpenSpec.ofChange Rows.bitsReadsSpec) :=
  OpenClaim.holds_of_wide 4 Try.f4 rfl rfl rfl rfl rfl rfl rfl ⟨rfl, rfl, rfl, rfl, rfl⟩ rfl rfl rfl rfl rfl (by kernel_rfl) Try.func4 (by kernel_rfl)
    (of_decide_eq_true (by kernel_rfl)) (by unfold Func.isWrapper; first | (rw [if_pos (by decide +kernel)]; kernel_rfl) | (rw [if_neg (by decide +kernel)]; exact ⟨rfl, rfl⟩))
    (fun os started H enc _ => lifted os started H enc)

/-- The statement. -/
theorem proved : Rows.BitsReadsSaid := over
#print axioms proved
end Go.Proofs.Ytgmhnfgpkoebiaa.bitsReads
