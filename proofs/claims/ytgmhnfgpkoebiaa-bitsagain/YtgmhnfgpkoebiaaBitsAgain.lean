/-
  Proved: BitsAgain answers true for all inputs. No other condition.
-/
import Derived.Test.YtgmhnfgpkoebiaaRows
import Derived.Test.YtgmhnfgpkoebiaaI
import Derived.Test.YtgmhnfgpkoebiaaJ
import Derived.Test.YtgmhnfgpkoebiaaK
import Derived.Test.YtgmhnfgpkoebiaaL
import Derived.ShutString
import Derived.ChangeOld
import Derived.Below
namespace Go.Proofs.Ytgmhnfgpkoebiaa.bitsAgain
open Go.ChangeShapes Go.WideShapes Go.ChangeAt Go.RowKit
open Go.ChangeMaps (open_string shut_string)
set_option linter.unusedVariables false

set_option maxHeartbeats 4000000 in
theorem walk_few (a0 : Option Addr) (len0 cap0 nb : Nat) (lb : List Int) (b off : Nat) (len cap : Nat) (li : List Int) (w : World) (HB : Has w a0 nb cap0 lb) (hnb : nb ≤ 300) (hle0 : len0 ≤ cap0) (hcb0 : cap0 ≤ maxLen) (ek : (if (300 : Int) < (len0 : Int) then 300 else (len0 : Int)) = (nb : Int)) (H : HasI w (some ⟨b, off, none⟩) len cap li) (h0 : 0 < len) (h1 : len ≤ 100) :
    Calls Try.prog 7 #[.slice a0 len0 cap0, .slice (some ⟨b, off, none⟩) len cap] w fun e w' => e = .returned (.bool true) ∧ Below w.heap.size w w' := by
  have hle := H.le
  have hcb := H.capb
  have hle1 : (nb : Int) ≤ (cap0 : Int) := by have := HB.le; omega
  have hnb2 : (nb : Int) ≤ 300 := by omega
  unfold maxLen at hcb hcb0
  replace H := hide H
  have hlb : Hid (lb.length = nb) := HB.hlen
  replace HB := hide HB
  have hf := hide (iN_le li)
  have hz : Hid (rd (num lb) nb 0 0 = 0) := rd_zero _ _ _
  have hself := hide (holds_self lb HB.out.bytes)
  rw [hlb.out] at hself
  go_enter Try.func7, Try.ntmps7
  go_wp2_with fail
  refine (works_any _).mono ?_
  rintro e w1 ⟨rfl, B1⟩
  go_wp2_with fail
  refine (newRd _ w.heap.size B1.size _ _ _ lb (HB.out.kept B1 (Nat.le_refl _)) (by omega)).mono ?_
  rintro e w2 ⟨q, vq, rfl, B2, R2, N2⟩
  have b2 := B1.trans (B2.mono B1.size)
  replace R2 := hide R2
  clear N2
  go_wp2_with fail
  refine (newWr _ w.heap.size b2.size).mono ?_
  rintro e w3 ⟨p, rfl, B3, W3, N3⟩
  have b3 := hide (b2.trans (B3.mono b2.size))
  have D3 := hide (R2.out.dis N3)
  have R3 := hide (R2.out.below B3 (Nat.le_refl _))
  have W3 : Hid (Wr w3 w.heap.size p (.slice none 0 0) (rd (num lb) nb 0 0) 0) := by rw [hz.out]; exact W3
  clear B1 B2 B3 R2 N3 b2 hz
  go_wp2_with fail
  go_loopw [7] (fun i wr => ∃ (k P : Nat) (v : Value), k ≤ len ∧ i = .int .i64 (k : Int) ∧ P ≤ 8 * nb ∧ Hid (Rd wr w.heap.size q vq lb P) ∧ Hid (Wr wr w.heap.size p v (rd (num lb) nb 0 P) P) ∧ Hid (Dis q vq p v) ∧ Hid (Below w.heap.size w wr)) (fun i _ => len - (intOf i).toNat)
  case atStart => exact ⟨0, 0, _, Nat.zero_le _, rfl, Nat.zero_le _, R3, W3, D3, b3⟩
  case round =>
    clear R3 W3 D3 b3
    obtain ⟨k, P, v, hk, rfl, hP, R, W, D, B⟩ := hrel
    by_cases hkl : k < len
    · have hk1 : (k : Int) < (len : Int) := by omega
      have hk2 : (k : Int) < 100 := by omega
      have c1 := H.out.look B.out k (by omega)
      have AM := hide (H.out.amg k (by omega))
      have hn := hf.out k
      by_cases hroom : P + iN li k ≤ 8 * nb
      · have GE := hide (getRd R.out (iN li k) hn (by rw [hlb.out]; exact hroom))
        rw [hlb.out] at GE
        have hx := rd_lt64 (num lb) nb P (iN li k) hn
        have e2 := hide (rd_front (num lb) nb P (iN li k) hroom)
        have PU : Hid (∀ w0 v0, Wr w0 w.heap.size p v0 (rd (num lb) nb 0 P) P → Calls Try.prog 10 #[.pointer (some ⟨p, 0, none⟩), .int .u64 ((rd (num lb) nb P (iN li k) : Nat) : Int), .int .i64 (iN li k : Int)] w0 fun e w' => e = .returned (.int .i64 0) ∧ ∃ v', Wr w' w.heap.size p v' (rd (num lb) nb 0 (P + iN li k)) (P + iN li k) ∧ Did w0 w' w.heap.size p v0 v') := fun w0 v0 h => by
          have := putWr h (rd (num lb) nb P (iN li k)) (iN li k) hx hn (by omega)
          rwa [e2.out] at this
        clear R e2
        generalize rd (num lb) nb P (iN li k) = X at *
        generalize iN li k = N at *
        generalize iC li k = C at *
        go_wp2_with fail
        refine (AM.out _).mono ?_
        rintro e w5 ⟨rfl, rfl⟩
        go_wp2_with fail
        refine GE.out.mono ?_
        rintro e w6 ⟨rfl, R6, D6⟩
        have W6 := hide (D6.wr D.out W.out).1
        have B6 := hide (B.out.trans D6.bel)
        replace R6 := hide R6
        clear D6 GE W B
        go_wp2_with fail
        refine (PU.out _ _ W6.out).mono ?_
        rintro e w7 ⟨rfl, v7, W7, D7⟩
        have R7 := hide (D7.rd D.out.symm R6.out)
        have B7 := hide (B6.out.trans D7.bel)
        replace W7 := hide W7
        clear D7 PU W6 R6 B6
        go_wp2_with fail
        go_roundw
        case rel => exact ⟨k + 1, P + N, v7, by omega, by go_num, hroom, R7.out.1, W7, R7.out.2.symm, B7⟩
        case measure => simp [intOf]; omega
      · have GE := hide (getRdBits R.out (iN li k) hn (by rw [hlb.out]; omega))
        generalize iN li k = N at *
        generalize iC li k = C at *
        go_wp2_with fail
        refine (AM.out _).mono ?_
        rintro e w5 ⟨rfl, rfl⟩
        go_wp2_with fail
        refine GE.out.mono ?_
        rintro e w6 ⟨rfl, j, rfl⟩
        go_wp2_with fail
        go_roundw
        case rel => exact ⟨k + 1, P, v, by omega, by go_num, hP, R.out.drewN j, W.out.drewN j, D, below_drewN B.out j⟩
        case measure => simp [intOf]; omega
    · obtain rfl : len = k := by omega
      go_wp2_with fail
      go_loopw [11] (fun i wr => ∃ (k P : Nat) (v : Value), i = .int .i64 (k : Int) ∧ k ≤ P ∧ P ≤ 8 * nb ∧ Hid (Rd wr w.heap.size q vq lb P) ∧ Hid (Wr wr w.heap.size p v (rd (num lb) nb 0 P) P) ∧ Hid (Dis q vq p v) ∧ Hid (Below w.heap.size w wr)) (fun i _ => 8 * nb - (intOf i).toNat)
      case atStart => exact ⟨0, P, v, rfl, Nat.zero_le _, hP, R, W, D, B⟩
      case round =>
        clear R W D B hP
        obtain ⟨k, P, v, rfl, hkP, hP, R, W, D, B⟩ := hrel
        by_cases hk : k < 8 * nb
        · have hk1 : (k : Int) < 8 * (nb : Int) := by omega
          have LF := hide (leftRd R.out)
          rw [hlb.out] at LF
          by_cases hP2 : P < 8 * nb
          · have hd : (0 : Int) < ((8 * nb - P : Nat) : Int) := by omega
            have GE := hide (fun w' (h : Rd w' w.heap.size q vq lb P) => getRd h 1 (by omega) (by rw [hlb.out]; omega))
            rw [hlb.out] at GE
            have hx := rd_lt64 (num lb) nb P 1 (by omega)
            have e2 := hide (rd_front (num lb) nb P 1 (by omega))
            have PU : Hid (∀ w0 v0, Wr w0 w.heap.size p v0 (rd (num lb) nb 0 P) P → Calls Try.prog 10 #[.pointer (some ⟨p, 0, none⟩), .int .u64 ((rd (num lb) nb P 1 : Nat) : Int), .int .i64 1] w0 fun e w' => e = .returned (.int .i64 0) ∧ ∃ v', Wr w' w.heap.size p v' (rd (num lb) nb 0 (P + 1)) (P + 1) ∧ Did w0 w' w.heap.size p v0 v') := fun w0 v0 h => by
              have := putWr h (rd (num lb) nb P 1) 1 hx (by omega) (by omega)
              rwa [e2.out] at this
            clear e2
            generalize rd (num lb) nb P 1 = X at *
            generalize 8 * nb - P = d at LF hd
            go_wp2_with fail
            refine LF.out.mono ?_
            rintro e w5 ⟨rfl, j, rfl⟩
            replace R := hide (R.out.drewN j)
            replace W := hide (W.out.drewN j)
            replace B := hide (below_drewN B.out j)
            go_wp2_with fail
            refine (GE.out _ R.out).mono ?_
            rintro e w6 ⟨rfl, R6, D6⟩
            have W6 := hide (D6.wr D.out W.out).1
            have B6 := hide (B.out.trans D6.bel)
            replace R6 := hide R6
            clear D6 GE W B R
            go_wp2_with fail
            refine (PU.out _ _ W6.out).mono ?_
            rintro e w7 ⟨rfl, v7, W7, D7⟩
            have R7 := hide (D7.rd D.out.symm R6.out)
            have B7 := hide (B6.out.trans D7.bel)
            replace W7 := hide W7
            clear D7 PU W6 R6 B6
            go_wp2_with fail
            go_roundw
            case rel => exact ⟨k + 1, P + 1, v7, by go_num, by omega, by omega, R7.out.1, W7, R7.out.2.symm, B7⟩
            case measure => simp [intOf]; omega
          · obtain rfl : 8 * nb = P := by omega
            have hd : ((8 * nb - 8 * nb : Nat) : Int) = 0 := by omega
            rw [hd] at LF
            have BY := hide (fun j => bytesWr (W.out.drewN j) (by omega) lb hself.out)
            go_wp2_with fail
            refine LF.out.mono ?_
            rintro e w5 ⟨rfl, j, rfl⟩
            go_wp2_with fail
            refine (BY.out j).mono ?_
            rintro e w6 ⟨a6, n6, c6, rfl, H6, B6, -⟩
            have b6 := (below_drewN B.out j).trans (B6.mono (below_drewN B.out j).size)
            go_wp2_with fail
            refine (same_yes _ _ _ _ _ _ _ _ _ H6 (HB.out.kept b6 (Nat.le_refl _)) rfl).mono ?_
            rintro e w7 ⟨rfl, rfl⟩
            go_wp2_with fail
            go_ret
            exact ⟨rfl, b6⟩
        · obtain rfl : 8 * nb = P := by omega
          have hk1 : 8 * (nb : Int) ≤ (k : Int) := by omega
          have BY := hide (bytesWr W.out (by omega) lb hself.out)
          go_wp2_with fail
          refine BY.out.mono ?_
          rintro e w6 ⟨a6, n6, c6, rfl, H6, B6, -⟩
          have b6 := B.out.trans (B6.mono B.out.size)
          go_wp2_with fail
          refine (same_yes _ _ _ _ _ _ _ _ _ H6 (HB.out.kept b6 (Nat.le_refl _)) rfl).mono ?_
          rintro e w7 ⟨rfl, rfl⟩
          go_wp2_with fail
          go_ret
          exact ⟨rfl, b6⟩

set_option maxHeartbeats 4000000 in
theorem walk_many (a0 : Option Addr) (len0 cap0 nb : Nat) (lb : List Int) (b off : Nat) (len cap : Nat) (li : List Int) (w : World) (HB : Has w a0 nb cap0 lb) (hnb : nb ≤ 300) (hle0 : len0 ≤ cap0) (hcb0 : cap0 ≤ maxLen) (ek : (if (300 : Int) < (len0 : Int) then 300 else (len0 : Int)) = (nb : Int)) (H : HasI w (some ⟨b, off, none⟩) len cap li) (h1 : 100 < len) :
    Calls Try.prog 7 #[.slice a0 len0 cap0, .slice (some ⟨b, off, none⟩) len cap] w fun e w' => e = .returned (.bool true) ∧ Below w.heap.size w w' := by
  have hle := H.le
  have hcb := H.capb
  have hle1 : (nb : Int) ≤ (cap0 : Int) := by have := HB.le; omega
  have hnb2 : (nb : Int) ≤ 300 := by omega
  unfold maxLen at hcb hcb0
  replace H := hide H
  have hlb : Hid (lb.length = nb) := HB.hlen
  replace HB := hide HB
  have hf := hide (iN_le li)
  have hz : Hid (rd (num lb) nb 0 0 = 0) := rd_zero _ _ _
  have hself := hide (holds_self lb HB.out.bytes)
  rw [hlb.out] at hself
  go_enter Try.func7, Try.ntmps7
  go_wp2_with fail
  refine (works_any _).mono ?_
  rintro e w1 ⟨rfl, B1⟩
  go_wp2_with fail
  refine (newRd _ w.heap.size B1.size _ _ _ lb (HB.out.kept B1 (Nat.le_refl _)) (by omega)).mono ?_
  rintro e w2 ⟨q, vq, rfl, B2, R2, N2⟩
  have b2 := B1.trans (B2.mono B1.size)
  replace R2 := hide R2
  clear N2
  go_wp2_with fail
  refine (newWr _ w.heap.size b2.size).mono ?_
  rintro e w3 ⟨p, rfl, B3, W3, N3⟩
  have b3 := hide (b2.trans (B3.mono b2.size))
  have D3 := hide (R2.out.dis N3)
  have R3 := hide (R2.out.below B3 (Nat.le_refl _))
  have W3 : Hid (Wr w3 w.heap.size p (.slice none 0 0) (rd (num lb) nb 0 0) 0) := by rw [hz.out]; exact W3
  clear B1 B2 B3 R2 N3 b2 hz
  go_wp2_with fail
  go_loopw [7] (fun i wr => ∃ (k P : Nat) (v : Value), k ≤ 100 ∧ i = .int .i64 (k : Int) ∧ P ≤ 8 * nb ∧ Hid (Rd wr w.heap.size q vq lb P) ∧ Hid (Wr wr w.heap.size p v (rd (num lb) nb 0 P) P) ∧ Hid (Dis q vq p v) ∧ Hid (Below w.heap.size w wr)) (fun i _ => 100 - (intOf i).toNat)
  case atStart => exact ⟨0, 0, _, Nat.zero_le _, rfl, Nat.zero_le _, R3, W3, D3, b3⟩
  case round =>
    clear R3 W3 D3 b3
    obtain ⟨k, P, v, hk, rfl, hP, R, W, D, B⟩ := hrel
    by_cases hkl : k < 100
    · have hk1 : (k : Int) < (len : Int) := by omega
      have hk2 : (k : Int) < 100 := by omega
      have c1 := H.out.look B.out k (by omega)
      have AM := hide (H.out.amg k (by omega))
      have hn := hf.out k
      by_cases hroom : P + iN li k ≤ 8 * nb
      · have GE := hide (getRd R.out (iN li k) hn (by rw [hlb.out]; exact hroom))
        rw [hlb.out] at GE
        have hx := rd_lt64 (num lb) nb P (iN li k) hn
        have e2 := hide (rd_front (num lb) nb P (iN li k) hroom)
        have PU : Hid (∀ w0 v0, Wr w0 w.heap.size p v0 (rd (num lb) nb 0 P) P → Calls Try.prog 10 #[.pointer (some ⟨p, 0, none⟩), .int .u64 ((rd (num lb) nb P (iN li k) : Nat) : Int), .int .i64 (iN li k : Int)] w0 fun e w' => e = .returned (.int .i64 0) ∧ ∃ v', Wr w' w.heap.size p v' (rd (num lb) nb 0 (P + iN li k)) (P + iN li k) ∧ Did w0 w' w.heap.size p v0 v') := fun w0 v0 h => by
          have := putWr h (rd (num lb) nb P (iN li k)) (iN li k) hx hn (by omega)
          rwa [e2.out] at this
        clear R e2
        generalize rd (num lb) nb P (iN li k) = X at *
        generalize iN li k = N at *
        generalize iC li k = C at *
        go_wp2_with fail
        refine (AM.out _).mono ?_
        rintro e w5 ⟨rfl, rfl⟩
        go_wp2_with fail
        refine GE.out.mono ?_
        rintro e w6 ⟨rfl, R6, D6⟩
        have W6 := hide (D6.wr D.out W.out).1
        have B6 := hide (B.out.trans D6.bel)
        replace R6 := hide R6
        clear D6 GE W B
        go_wp2_with fail
        refine (PU.out _ _ W6.out).mono ?_
        rintro e w7 ⟨rfl, v7, W7, D7⟩
        have R7 := hide (D7.rd D.out.symm R6.out)
        have B7 := hide (B6.out.trans D7.bel)
        replace W7 := hide W7
        clear D7 PU W6 R6 B6
        go_wp2_with fail
        go_roundw
        case rel => exact ⟨k + 1, P + N, v7, by omega, by go_num, hroom, R7.out.1, W7, R7.out.2.symm, B7⟩
        case measure => simp [intOf]; omega
      · have GE := hide (getRdBits R.out (iN li k) hn (by rw [hlb.out]; omega))
        generalize iN li k = N at *
        generalize iC li k = C at *
        go_wp2_with fail
        refine (AM.out _).mono ?_
        rintro e w5 ⟨rfl, rfl⟩
        go_wp2_with fail
        refine GE.out.mono ?_
        rintro e w6 ⟨rfl, j, rfl⟩
        go_wp2_with fail
        go_roundw
        case rel => exact ⟨k + 1, P, v, by omega, by go_num, hP, R.out.drewN j, W.out.drewN j, D, below_drewN B.out j⟩
        case measure => simp [intOf]; omega
    · obtain rfl : 100 = k := by omega
      have hk1 : (100 : Int) < (len : Int) := by omega
      simp only [show ((100 : Nat) : Int) = 100 from rfl]
      go_wp2_with fail
      go_loopw [11] (fun i wr => ∃ (k P : Nat) (v : Value), i = .int .i64 (k : Int) ∧ k ≤ P ∧ P ≤ 8 * nb ∧ Hid (Rd wr w.heap.size q vq lb P) ∧ Hid (Wr wr w.heap.size p v (rd (num lb) nb 0 P) P) ∧ Hid (Dis q vq p v) ∧ Hid (Below w.heap.size w wr)) (fun i _ => 8 * nb - (intOf i).toNat)
      case atStart => exact ⟨0, P, v, rfl, Nat.zero_le _, hP, R, W, D, B⟩
      case round =>
        clear R W D B hP
        obtain ⟨k, P, v, rfl, hkP, hP, R, W, D, B⟩ := hrel
        by_cases hk : k < 8 * nb
        · have hk1 : (k : Int) < 8 * (nb : Int) := by omega
          have LF := hide (leftRd R.out)
          rw [hlb.out] at LF
          by_cases hP2 : P < 8 * nb
          · have hd : (0 : Int) < ((8 * nb - P : Nat) : Int) := by omega
            have GE := hide (fun w' (h : Rd w' w.heap.size q vq lb P) => getRd h 1 (by omega) (by rw [hlb.out]; omega))
            rw [hlb.out] at GE
            have hx := rd_lt64 (num lb) nb P 1 (by omega)
            have e2 := hide (rd_front (num lb) nb P 1 (by omega))
            have PU : Hid (∀ w0 v0, Wr w0 w.heap.size p v0 (rd (num lb) nb 0 P) P → Calls Try.prog 10 #[.pointer (some ⟨p, 0, none⟩), .int .u64 ((rd (num lb) nb P 1 : Nat) : Int), .int .i64 1] w0 fun e w' => e = .returned (.int .i64 0) ∧ ∃ v', Wr w' w.heap.size p v' (rd (num lb) nb 0 (P + 1)) (P + 1) ∧ Did w0 w' w.heap.size p v0 v') := fun w0 v0 h => by
              have := putWr h (rd (num lb) nb P 1) 1 hx (by omega) (by omega)
              rwa [e2.out] at this
            clear e2
            generalize rd (num lb) nb P 1 = X at *
            generalize 8 * nb - P = d at LF hd
            go_wp2_with fail
            refine LF.out.mono ?_
            rintro e w5 ⟨rfl, j, rfl⟩
            replace R := hide (R.out.drewN j)
            replace W := hide (W.out.drewN j)
            replace B := hide (below_drewN B.out j)
            go_wp2_with fail
            refine (GE.out _ R.out).mono ?_
            rintro e w6 ⟨rfl, R6, D6⟩
            have W6 := hide (D6.wr D.out W.out).1
            have B6 := hide (B.out.trans D6.bel)
            replace R6 := hide R6
            clear D6 GE W B R
            go_wp2_with fail
            refine (PU.out _ _ W6.out).mono ?_
            rintro e w7 ⟨rfl, v7, W7, D7⟩
            have R7 := hide (D7.rd D.out.symm R6.out)
            have B7 := hide (B6.out.trans D7.bel)
            replace W7 := hide W7
            clear D7 PU W6 R6 B6
            go_wp2_with fail
            go_roundw
            case rel => exact ⟨k + 1, P + 1, v7, by go_num, by omega, by omega, R7.out.1, W7, R7.out.2.symm, B7⟩
            case measure => simp [intOf]; omega
          · obtain rfl : 8 * nb = P := by omega
            have hd : ((8 * nb - 8 * nb : Nat) : Int) = 0 := by omega
            rw [hd] at LF
            have BY := hide (fun j => bytesWr (W.out.drewN j) (by omega) lb hself.out)
            go_wp2_with fail
            refine LF.out.mono ?_
            rintro e w5 ⟨rfl, j, rfl⟩
            go_wp2_with fail
            refine (BY.out j).mono ?_
            rintro e w6 ⟨a6, n6, c6, rfl, H6, B6, -⟩
            have b6 := (below_drewN B.out j).trans (B6.mono (below_drewN B.out j).size)
            go_wp2_with fail
            refine (same_yes _ _ _ _ _ _ _ _ _ H6 (HB.out.kept b6 (Nat.le_refl _)) rfl).mono ?_
            rintro e w7 ⟨rfl, rfl⟩
            go_wp2_with fail
            go_ret
            exact ⟨rfl, b6⟩
        · obtain rfl : 8 * nb = P := by omega
          have hk1 : 8 * (nb : Int) ≤ (k : Int) := by omega
          have BY := hide (bytesWr W.out (by omega) lb hself.out)
          go_wp2_with fail
          refine BY.out.mono ?_
          rintro e w6 ⟨a6, n6, c6, rfl, H6, B6, -⟩
          have b6 := B.out.trans (B6.mono B.out.size)
          go_wp2_with fail
          refine (same_yes _ _ _ _ _ _ _ _ _ H6 (HB.out.kept b6 (Nat.le_refl _)) rfl).mono ?_
          rintro e w7 ⟨rfl, rfl⟩
          go_wp2_with fail
          go_ret
          exact ⟨rfl, b6⟩

set_option maxHeartbeats 4000000 in
theorem walk_none (a0 : Option Addr) (len0 cap0 nb : Nat) (lb : List Int) (a1 : Option Addr) (len cap : Nat) (li : List Int) (w : World) (HB : Has w a0 nb cap0 lb) (hnb : nb ≤ 300) (hle0 : len0 ≤ cap0) (hcb0 : cap0 ≤ maxLen) (ek : (if (300 : Int) < (len0 : Int) then 300 else (len0 : Int)) = (nb : Int)) (H : HasI w (a1) len cap li) (h1 : len = 0) :
    Calls Try.prog 7 #[.slice a0 len0 cap0, .slice (a1) len cap] w fun e w' => e = .returned (.bool true) ∧ Below w.heap.size w w' := by
  have hle := H.le
  have hcb := H.capb
  have hle1 : (nb : Int) ≤ (cap0 : Int) := by have := HB.le; omega
  have hnb2 : (nb : Int) ≤ 300 := by omega
  unfold maxLen at hcb hcb0
  replace H := hide H
  have hlb : Hid (lb.length = nb) := HB.hlen
  replace HB := hide HB
  have hf := hide (iN_le li)
  have hz : Hid (rd (num lb) nb 0 0 = 0) := rd_zero _ _ _
  have hself := hide (holds_self lb HB.out.bytes)
  rw [hlb.out] at hself
  go_enter Try.func7, Try.ntmps7
  go_wp2_with fail
  refine (works_any _).mono ?_
  rintro e w1 ⟨rfl, B1⟩
  go_wp2_with fail
  refine (newRd _ w.heap.size B1.size _ _ _ lb (HB.out.kept B1 (Nat.le_refl _)) (by omega)).mono ?_
  rintro e w2 ⟨q, vq, rfl, B2, R2, N2⟩
  have b2 := B1.trans (B2.mono B1.size)
  replace R2 := hide R2
  clear N2
  go_wp2_with fail
  refine (newWr _ w.heap.size b2.size).mono ?_
  rintro e w3 ⟨p, rfl, B3, W3, N3⟩
  have b3 := hide (b2.trans (B3.mono b2.size))
  have D3 := hide (R2.out.dis N3)
  have R3 := hide (R2.out.below B3 (Nat.le_refl _))
  have W3 : Hid (Wr w3 w.heap.size p (.slice none 0 0) (rd (num lb) nb 0 0) 0) := by rw [hz.out]; exact W3
  clear B1 B2 B3 R2 N3 b2 hz
  go_wp2_with fail
  go_loopw [7] (fun i wr => ∃ (k P : Nat) (v : Value), k ≤ 0 ∧ i = .int .i64 (k : Int) ∧ P ≤ 8 * nb ∧ Hid (Rd wr w.heap.size q vq lb P) ∧ Hid (Wr wr w.heap.size p v (rd (num lb) nb 0 P) P) ∧ Hid (Dis q vq p v) ∧ Hid (Below w.heap.size w wr)) (fun i _ => 0 - (intOf i).toNat)
  case atStart => exact ⟨0, 0, _, Nat.zero_le _, rfl, Nat.zero_le _, R3, W3, D3, b3⟩
  case round =>
    clear R3 W3 D3 b3
    obtain ⟨k, P, v, hk, rfl, hP, R, W, D, B⟩ := hrel
    by_cases hkl : k < 0
    · omega
    · obtain rfl : 0 = k := by omega
      simp only [show ((0 : Nat) : Int) = 0 from rfl]
      go_wp2_with fail
      go_loopw [11] (fun i wr => ∃ (k P : Nat) (v : Value), i = .int .i64 (k : Int) ∧ k ≤ P ∧ P ≤ 8 * nb ∧ Hid (Rd wr w.heap.size q vq lb P) ∧ Hid (Wr wr w.heap.size p v (rd (num lb) nb 0 P) P) ∧ Hid (Dis q vq p v) ∧ Hid (Below w.heap.size w wr)) (fun i _ => 8 * nb - (intOf i).toNat)
      case atStart => exact ⟨0, P, v, rfl, Nat.zero_le _, hP, R, W, D, B⟩
      case round =>
        clear R W D B hP
        obtain ⟨k, P, v, rfl, hkP, hP, R, W, D, B⟩ := hrel
        by_cases hk : k < 8 * nb
        · have hk1 : (k : Int) < 8 * (nb : Int) := by omega
          have LF := hide (leftRd R.out)
          rw [hlb.out] at LF
          by_cases hP2 : P < 8 * nb
          · have hd : (0 : Int) < ((8 * nb - P : Nat) : Int) := by omega
            have GE := hide (fun w' (h : Rd w' w.heap.size q vq lb P) => getRd h 1 (by omega) (by rw [hlb.out]; omega))
            rw [hlb.out] at GE
            have hx := rd_lt64 (num lb) nb P 1 (by omega)
            have e2 := hide (rd_front (num lb) nb P 1 (by omega))
            have PU : Hid (∀ w0 v0, Wr w0 w.heap.size p v0 (rd (num lb) nb 0 P) P → Calls Try.prog 10 #[.pointer (some ⟨p, 0, none⟩), .int .u64 ((rd (num lb) nb P 1 : Nat) : Int), .int .i64 1] w0 fun e w' => e = .returned (.int .i64 0) ∧ ∃ v', Wr w' w.heap.size p v' (rd (num lb) nb 0 (P + 1)) (P + 1) ∧ Did w0 w' w.heap.size p v0 v') := fun w0 v0 h => by
              have := putWr h (rd (num lb) nb P 1) 1 hx (by omega) (by omega)
              rwa [e2.out] at this
            clear e2
            generalize rd (num lb) nb P 1 = X at *
            generalize 8 * nb - P = d at LF hd
            go_wp2_with fail
            refine LF.out.mono ?_
            rintro e w5 ⟨rfl, j, rfl⟩
            replace R := hide (R.out.drewN j)
            replace W := hide (W.out.drewN j)
            replace B := hide (below_drewN B.out j)
            go_wp2_with fail
            refine (GE.out _ R.out).mono ?_
            rintro e w6 ⟨rfl, R6, D6⟩
            have W6 := hide (D6.wr D.out W.out).1
            have B6 := hide (B.out.trans D6.bel)
            replace R6 := hide R6
            clear D6 GE W B R
            go_wp2_with fail
            refine (PU.out _ _ W6.out).mono ?_
            rintro e w7 ⟨rfl, v7, W7, D7⟩
            have R7 := hide (D7.rd D.out.symm R6.out)
            have B7 := hide (B6.out.trans D7.bel)
            replace W7 := hide W7
            clear D7 PU W6 R6 B6
            go_wp2_with fail
            go_roundw
            case rel => exact ⟨k + 1, P + 1, v7, by go_num, by omega, by omega, R7.out.1, W7, R7.out.2.symm, B7⟩
            case measure => simp [intOf]; omega
          · obtain rfl : 8 * nb = P := by omega
            have hd : ((8 * nb - 8 * nb : Nat) : Int) = 0 := by omega
            rw [hd] at LF
            have BY := hide (fun j => bytesWr (W.out.drewN j) (by omega) lb hself.out)
            go_wp2_with fail
            refine LF.out.mono ?_
            rintro e w5 ⟨rfl, j, rfl⟩
            go_wp2_with fail
            refine (BY.out j).mono ?_
            rintro e w6 ⟨a6, n6, c6, rfl, H6, B6, -⟩
            have b6 := (below_drewN B.out j).trans (B6.mono (below_drewN B.out j).size)
            go_wp2_with fail
            refine (same_yes _ _ _ _ _ _ _ _ _ H6 (HB.out.kept b6 (Nat.le_refl _)) rfl).mono ?_
            rintro e w7 ⟨rfl, rfl⟩
            go_wp2_with fail
            go_ret
            exact ⟨rfl, b6⟩
        · obtain rfl : 8 * nb = P := by omega
          have hk1 : 8 * (nb : Int) ≤ (k : Int) := by omega
          have BY := hide (bytesWr W.out (by omega) lb hself.out)
          go_wp2_with fail
          refine BY.out.mono ?_
          rintro e w6 ⟨a6, n6, c6, rfl, H6, B6, -⟩
          have b6 := B.out.trans (B6.mono B.out.size)
          go_wp2_with fail
          refine (same_yes _ _ _ _ _ _ _ _ _ H6 (HB.out.kept b6 (Nat.le_refl _)) rfl).mono ?_
          rintro e w7 ⟨rfl, rfl⟩
          go_wp2_with fail
          go_ret
          exact ⟨rfl, b6⟩

theorem walk (a0 : Option Addr) (len0 cap0 : Nat) (l0 : List Int) (a1 : Option Addr) (len1 cap1 : Nat) (l1 : List Int) (w : World) (HB : Has w a0 len0 cap0 l0) (H : HasI w a1 len1 cap1 l1) :
    Calls Try.prog 7 #[.slice a0 len0 cap0, .slice a1 len1 cap1] w fun e w' => e = .returned (.bool true) ∧ Below w.heap.size w w' := by
  have ek : (if (300 : Int) < (len0 : Int) then 300 else (len0 : Int)) = ((min len0 300 : Nat) : Int) := by split <;> omega
  have hf := HB.front (min len0 300) (by omega)
  by_cases h0 : len1 = 0
  · exact walk_none a0 len0 cap0 _ _ a1 len1 cap1 l1 w hf (by omega) HB.le HB.capb ek H h0
  · obtain ⟨b, off, rfl, _⟩ := H.cells (by omega)
    by_cases h1 : len1 ≤ 100
    · exact walk_few a0 len0 cap0 _ _ b off len1 cap1 l1 w hf (by omega) HB.le HB.capb ek H (by omega) h1
    · exact walk_many a0 len0 cap0 _ _ b off len1 cap1 l1 w hf (by omega) HB.le HB.capb ek H (by omega)


set_option maxRecDepth 100000 in
theorem lifted (os : Os) (started : os.Started) (H : Type) (enc : TypeId × Value → H) :
    ReturnsInHanded {} Try.checked os 7 .any (Rows.bitsAgainSpec.pre6 enc Try.prog Try.f7 Rows.bitsAgainRow.domain false) (Rows.bitsAgainSpec.post enc Try.prog Try.f7 false true false false) := by
  refine returnsInHanded_of_change (C := Try.checked) own started (by kernel_rfl) Try.func7
    (ChangeSpec.witness6 (enc := enc) (C := Try.checked) false ⟨#[], #[.slice none 0 0, .slice none 0 0], []⟩ 8 (by kernel_rfl) (by kernel_rfl) (by kernel_rfl) (by kernel_rfl)) ?_
  intro W base args ds gs before hval0 hW hcnd _
  have hval : ∀ (j : Nat) t v, Try.f7.params[j]? = some t → args[j]? = some v → Value.okWide Try.prog W .any base t v := hval0
  have hW' := hW
  obtain ⟨p, q, hA0, hV, rfl, hfz, hnd⟩ := hW
  have hA : DataW.TrodAll enc Try.prog W 0 (fun _ => true) true Try.f7.params.toList args.toList ds p := hA0
  rw [Try.params7] at hA hval
  obtain ⟨v0, vs0, d0, ds0, p0, q0, hargs, rfl, rfl, h0, r0⟩ := trodAll_cons hA
  obtain ⟨v1, vs1, d1, ds1, p1, q1, rfl, rfl, rfl, h1, r1⟩ := trodAll_cons r0
  obtain ⟨rfl, rfl, rfl⟩ := trodAll_nil r1
  obtain rfl : args = #[v0, v1] := by cases args; simp_all
  obtain ⟨rfl, rfl⟩ := trodVars_none hV
  obtain ⟨a0, len0, cap0, rfl⟩ := okWide_slice Try.underlying36 (hval 0 36 v0 rfl rfl)
  have k0 := h0
  have lt0 : ∀ x ∈ p0, x.block < W.heap.size := by obtain ⟨m, hm⟩ := k0; exact DataW.trod_lt m _ _ _ hm
  obtain ⟨l0, w0⟩ := came_bytes h0
  obtain ⟨a1, len1, cap1, rfl⟩ := okWide_slice Try.underlying40 (hval 1 40 v1 rfl rfl)
  have k1 := h1
  have lt1 : ∀ x ∈ p1, x.block < W.heap.size := by obtain ⟨m, hm⟩ := k1; exact DataW.trod_lt m _ _ _ hm
  obtain ⟨l1, w1⟩ := came_ints h1
  clear hA0 hval0
  refine (walk a0 len0 cap0 l0 a1 len1 cap1 l1 W w0 w1).mono fun e W' ⟨he, bel⟩ => ?_
  subst he
  exact ⟨_, rfl, _, _, _, [], _, [], hW', trodAll_mk1 (shut_bool Try.underlying4 _), (trodAll_cons_mk (Below.trod laidOut (by kernel_rfl) (of_decide_eq_true (by kernel_rfl)) k0 bel lt0) (trodAll_cons_mk (Below.trod laidOut (by kernel_rfl) (of_decide_eq_true (by kernel_rfl)) k1 bel lt1) trodAll_mk0)), rfl, bel.frame _, fun h => by cases h⟩

theorem over : Rows.bitsAgainRow.holds Try.pinned (OpenSpec.ofChange Rows.bitsAgainSpec) :=
  OpenClaim.holds_of_wide 7 Try.f7 rfl rfl rfl rfl rfl rfl rfl ⟨rfl, rfl, rfl, rfl, rfl⟩ rfl rfl rfl rfl rfl (by kernel_rfl) Try.func7 (by kernel_rfl)
    (of_decide_eq_true (by kernel_rfl)) (by unfold Func.isWrapper; first | (rw [if_pos (by decide +kernel)]; kernel_rfl) | (rw [if_neg (by decide +kernel)]; exact ⟨rfl, rfl⟩))
    (fun os started H enc _ => lifted os started H enc)

/-- The statement. -/
theorem proved : Rows.BitsAgainSaid := over
#print axioms proved
end Go.Proofs.Ytgmhnfgpkoebiaa.bitsAgain
