/-
  Proved: BitsBack answers true for all inputs. No other condition.
-/
import Derived.Test.YtgmhnfgpkoebiaaRows
import Derived.Test.YtgmhnfgpkoebiaaI
import Derived.Test.YtgmhnfgpkoebiaaJ
import Derived.Test.YtgmhnfgpkoebiaaK
import Derived.ShutString
import Derived.ChangeOld
import Derived.Below
namespace Go.Proofs.Ytgmhnfgpkoebiaa.bitsBack
open Go.ChangeShapes Go.WideShapes Go.ChangeAt Go.RowKit
open Go.ChangeMaps (open_string shut_string)
set_option linter.unusedVariables false

set_option maxHeartbeats 4000000 in
theorem walk_few (b off : Nat) (len cap : Nat) (ps : List (Nat × Int)) (w : World) (H : HasP w (some ⟨b, off, none⟩) len cap ps) (h0 : 0 < len) (h1 : len ≤ 100) :
    Calls Try.prog 5 #[.slice (some ⟨b, off, none⟩) len cap] w fun e w' => e = .returned (.bool true) ∧ Below w.heap.size w w' := by
  have hle := H.le
  have hcb := H.capb
  unfold maxLen at hcb
  have hblt : Hid (b < w.heap.size) := by obtain ⟨b', off', e, h1, _⟩ := H.cells (by omega); cases e; exact h1
  replace H := hide H
  have hf := hide (pN_le ps)
  have hz : Hid (posP (pN ps) 0 = 0 ∧ numP (pN ps) (pX ps) 0 = 0) := ⟨rfl, rfl⟩
  go_enter Try.func5, Try.ntmps5
  go_wp2_with fail
  refine (works_any _).mono ?_
  rintro e w1 ⟨rfl, B1⟩
  go_wp2_with fail
  refine (newWr _ w.heap.size B1.size).mono ?_
  rintro e w2 ⟨p, rfl, B2, Wp, Np⟩
  have b2 := hide (B1.trans (B2.mono B1.size))
  have Wp' : Hid (Wr w2 w.heap.size p (.slice none 0 0) (numP (pN ps) (pX ps) 0) (posP (pN ps) 0)) := by rw [hz.out.1, hz.out.2]; exact Wp
  clear Wp Np B1 B2
  go_wp2_with fail
  go_loopw [4, 5] (fun r i wr => ∃ (k P : Nat) (v : Value), k ≤ len ∧ i = .int .i64 (k : Int) ∧ r = .int .i64 (P : Int) ∧ Hid (P = posP (pN ps) k) ∧ Hid (Wr wr w.heap.size p v (numP (pN ps) (pX ps) k) (posP (pN ps) k)) ∧ Hid (Below w.heap.size w wr)) (fun _ i _ => len - (intOf i).toNat)
  case atStart => exact ⟨0, 0, _, Nat.zero_le _, rfl, rfl, hz.out.1.symm, Wp', b2⟩
  case round =>
    clear Wp' b2 hz
    obtain ⟨k, P, v, hk, rfl, rfl, hP, W, B⟩ := hrel
    by_cases hkl : k < len
    · have hk1 : (k : Int) < (len : Int) := by omega
      have hk2 : (k : Int) < 100 := by omega
      have c1 := (H.out.look B.out k (by omega)).1
      have c2 := (H.out.look B.out k (by omega)).2
      have AM := hide (H.out.amg k (by omega))
      have hx := H.out.x_lt k (by omega)
      have hn := hf.out k
      have hpl := posP_le hf.out k
      have e1 : Hid (posP (pN ps) (k + 1) = posP (pN ps) k + pN ps k) := rfl
      have e2 : Hid (numP (pN ps) (pX ps) (k + 1) = numP (pN ps) (pX ps) k * 2 ^ pN ps k + pX ps k % 2 ^ pN ps k) := rfl
      have PU := hide (putWr W.out (pX ps k) (pN ps k) hx hn (by omega))
      rw [← e1.out, ← e2.out] at PU
      have hPn : Hid (P + pN ps k = posP (pN ps) (k + 1)) := by rw [hP.out, e1.out]; exact rfl
      have hPb : (P : Int) ≤ 6400 := by have := hP.out; omega
      have hnb : (pN ps k : Int) ≤ 64 := by omega
      clear W e1 e2 hP hpl
      generalize pN ps k = N at *
      generalize pX ps k = X at *
      generalize pC ps k = C at *
      go_wp2_with (first
        | (go_at_call 23; refine (AM.out _).mono ?_; rintro e w5 ⟨rfl, rfl⟩)
        | (go_at_call 10; refine PU.out.mono ?_; rintro e w6 ⟨rfl, v6, W6, D6⟩))
      go_roundw
      case rel => exact ⟨k + 1, P + N, v6, by omega, by go_num, v64 (by omega), hPn, W6, B.out.trans D6.bel⟩
      case measure => simp [intOf]; omega
    · obtain rfl : len = k := by omega
      have hpl := hide (posP_le hf.out len)
      have hpb : posP (pN ps) len ≤ 6400 := by have := hpl.out; omega
      obtain ⟨lw, Hl⟩ := W.out.holds
      replace Hl := hide Hl
      have BY := hide (bytesWr W.out (by omega) lw Hl.out)
      go_wp2_with fail
      refine BY.out.mono ?_
      rintro e w3 ⟨a3, n3, c3, rfl, H3, B3, -⟩
      have hn3 : n3 ≤ 1099511627776 := by have h1 := H3.hlen; have h2 := Hl.out.hi; omega
      have b3 := hide (B.out.trans (B3.mono B.out.size))
      have W3 := hide (W.out.below B3 (Nat.le_refl _))
      clear BY W B
      go_wp2_with fail
      refine (newRd _ w.heap.size b3.out.size _ _ _ _ H3 hn3).mono ?_
      rintro e w4 ⟨q, vq, rfl, B4, R4, N4⟩
      have b4 := hide (b3.out.trans (B4.mono b3.out.size))
      have D4 := hide (W3.out.dis N4).symm
      have W4 := hide (W3.out.below B4 (Nat.le_refl _))
      have R4 : Hid (Rd w4 w.heap.size q vq lw (posP (pN ps) 0)) := R4
      clear H3 B3 b3 W3 N4
      go_wp2_with fail
      go_loopw [8] (fun i wr => ∃ k : Nat, k ≤ len ∧ i = .int .i64 (k : Int) ∧ Hid (Rd wr w.heap.size q vq lw (posP (pN ps) k)) ∧ Hid (Wr wr w.heap.size p v (numP (pN ps) (pX ps) len) (posP (pN ps) len)) ∧ Hid (Below w.heap.size w wr)) (fun i _ => len - (intOf i).toNat)
      case atStart => exact ⟨0, Nat.zero_le _, rfl, R4, W4, b4⟩
      case round =>
        clear R4 W4 b4
        obtain ⟨k, hk, rfl, R, W, B⟩ := hrel
        by_cases hkl : k < len
        · have hk1 : (k : Int) < (len : Int) := by omega
          have hk2 : (k : Int) < 100 := by omega
          have c1 := (H.out.look B.out k (by omega)).1
          have c2 := (H.out.look B.out k (by omega)).2
          have AM := hide (H.out.amg k (by omega))
          have hx := H.out.x_lt k (by omega)
          have hn := hf.out k
          have e1 : Hid (posP (pN ps) (k + 1) = posP (pN ps) k + pN ps k) := rfl
          have hm := hide (posP_mono (pN ps) (show k + 1 ≤ len by omega))
          have hlo := hide Hl.out.lo
          have GE := hide (getRd R.out (pN ps k) hn (by have h1 := hm.out; have h2 := e1.out; have h3 := hlo.out; omega))
          rw [Hl.out.num, numP_read (pN ps) (pX ps) hkl hlo.out, ← e1.out] at GE
          have LO := hide (fun w => low_any (pX ps k) (pN ps k) hx hn w)
          clear R e1 hm hlo
          generalize pX ps k % 2 ^ pN ps k = Z at *
          generalize pN ps k = N at *
          generalize pX ps k = X at *
          generalize pC ps k = C at *
          go_wp2_with fail
          refine (AM.out _).mono ?_
          rintro e w5 ⟨rfl, rfl⟩
          go_wp2_with fail
          refine GE.out.mono ?_
          rintro e w6 ⟨rfl, R6, D6⟩
          have c6 : w6.cell? ⟨b, off + k * 2, none⟩ = some (.int .u64 (X : Int)) := (D6.bel.cell (p := ⟨b, off + k * 2, none⟩) (by have := World.block_lt_of_cell? _ _ c1; have := hblt.out; omega)).trans c1
          have W6 := hide (D6.wr D4.out W.out).1
          have B6 := hide (B.out.trans D6.bel)
          replace R6 := hide R6
          clear D6 GE W B c1 c2
          go_wp2_with (go_at_call 24; refine (LO.out _).mono ?_; rintro e w7 ⟨rfl, rfl⟩)
          go_roundw
          case rel => exact ⟨k + 1, by omega, by go_num, R6, W6, B6⟩
          case measure => simp [intOf]; omega
        · obtain rfl : len = k := by omega
          have AT := hide (atRd R.out)
          have LE := hide (lenWr W.out)
          have LF := hide (leftRd R.out)
          have hle8 : ((8 * lw.length - posP (pN ps) len : Nat) : Int) < 8 := by have := Hl.out.hi; omega
          rw [← hP.out] at AT LE LF hle8
          generalize 8 * lw.length - P = d at *
          go_wp2_with fail
          refine AT.out.mono ?_
          rintro e w7 ⟨rfl, rfl⟩
          go_wp2_with fail
          refine LE.out.mono ?_
          rintro e w8 ⟨rfl, rfl⟩
          go_wp2_with fail
          refine LF.out.mono ?_
          rintro e w9 ⟨rfl, j, rfl⟩
          go_wp2_with fail
          go_ret
          exact ⟨ret_bool (by simp), below_drewN B.out j⟩

set_option maxHeartbeats 4000000 in
theorem walk_many (b off : Nat) (len cap : Nat) (ps : List (Nat × Int)) (w : World) (H : HasP w (some ⟨b, off, none⟩) len cap ps) (h1 : 100 < len) :
    Calls Try.prog 5 #[.slice (some ⟨b, off, none⟩) len cap] w fun e w' => e = .returned (.bool true) ∧ Below w.heap.size w w' := by
  have hle := H.le
  have hcb := H.capb
  unfold maxLen at hcb
  have hblt : Hid (b < w.heap.size) := by obtain ⟨b', off', e, h1, _⟩ := H.cells (by omega); cases e; exact h1
  replace H := hide H
  have hf := hide (pN_le ps)
  have hz : Hid (posP (pN ps) 0 = 0 ∧ numP (pN ps) (pX ps) 0 = 0) := ⟨rfl, rfl⟩
  go_enter Try.func5, Try.ntmps5
  go_wp2_with fail
  refine (works_any _).mono ?_
  rintro e w1 ⟨rfl, B1⟩
  go_wp2_with fail
  refine (newWr _ w.heap.size B1.size).mono ?_
  rintro e w2 ⟨p, rfl, B2, Wp, Np⟩
  have b2 := hide (B1.trans (B2.mono B1.size))
  have Wp' : Hid (Wr w2 w.heap.size p (.slice none 0 0) (numP (pN ps) (pX ps) 0) (posP (pN ps) 0)) := by rw [hz.out.1, hz.out.2]; exact Wp
  clear Wp Np B1 B2
  go_wp2_with fail
  go_loopw [4, 5] (fun r i wr => ∃ (k P : Nat) (v : Value), k ≤ 100 ∧ i = .int .i64 (k : Int) ∧ r = .int .i64 (P : Int) ∧ Hid (P = posP (pN ps) k) ∧ Hid (Wr wr w.heap.size p v (numP (pN ps) (pX ps) k) (posP (pN ps) k)) ∧ Hid (Below w.heap.size w wr)) (fun _ i _ => 100 - (intOf i).toNat)
  case atStart => exact ⟨0, 0, _, Nat.zero_le _, rfl, rfl, hz.out.1.symm, Wp', b2⟩
  case round =>
    clear Wp' b2 hz
    obtain ⟨k, P, v, hk, rfl, rfl, hP, W, B⟩ := hrel
    by_cases hkl : k < 100
    · have hk1 : (k : Int) < (len : Int) := by omega
      have hk2 : (k : Int) < 100 := by omega
      have c1 := (H.out.look B.out k (by omega)).1
      have c2 := (H.out.look B.out k (by omega)).2
      have AM := hide (H.out.amg k (by omega))
      have hx := H.out.x_lt k (by omega)
      have hn := hf.out k
      have hpl := posP_le hf.out k
      have e1 : Hid (posP (pN ps) (k + 1) = posP (pN ps) k + pN ps k) := rfl
      have e2 : Hid (numP (pN ps) (pX ps) (k + 1) = numP (pN ps) (pX ps) k * 2 ^ pN ps k + pX ps k % 2 ^ pN ps k) := rfl
      have PU := hide (putWr W.out (pX ps k) (pN ps k) hx hn (by omega))
      rw [← e1.out, ← e2.out] at PU
      have hPn : Hid (P + pN ps k = posP (pN ps) (k + 1)) := by rw [hP.out, e1.out]; exact rfl
      have hPb : (P : Int) ≤ 6400 := by have := hP.out; omega
      have hnb : (pN ps k : Int) ≤ 64 := by omega
      clear W e1 e2 hP hpl
      generalize pN ps k = N at *
      generalize pX ps k = X at *
      generalize pC ps k = C at *
      go_wp2_with (first
        | (go_at_call 23; refine (AM.out _).mono ?_; rintro e w5 ⟨rfl, rfl⟩)
        | (go_at_call 10; refine PU.out.mono ?_; rintro e w6 ⟨rfl, v6, W6, D6⟩))
      go_roundw
      case rel => exact ⟨k + 1, P + N, v6, by omega, by go_num, v64 (by omega), hPn, W6, B.out.trans D6.bel⟩
      case measure => simp [intOf]; omega
    · obtain rfl : 100 = k := by omega
      have hk1 : (100 : Int) < (len : Int) := by omega
      simp only [show ((100 : Nat) : Int) = 100 from rfl]
      have hpl := hide (posP_le hf.out 100)
      have hpb : posP (pN ps) 100 ≤ 6400 := by have := hpl.out; omega
      obtain ⟨lw, Hl⟩ := W.out.holds
      replace Hl := hide Hl
      have BY := hide (bytesWr W.out (by omega) lw Hl.out)
      go_wp2_with fail
      refine BY.out.mono ?_
      rintro e w3 ⟨a3, n3, c3, rfl, H3, B3, -⟩
      have hn3 : n3 ≤ 1099511627776 := by have h1 := H3.hlen; have h2 := Hl.out.hi; omega
      have b3 := hide (B.out.trans (B3.mono B.out.size))
      have W3 := hide (W.out.below B3 (Nat.le_refl _))
      clear BY W B
      go_wp2_with fail
      refine (newRd _ w.heap.size b3.out.size _ _ _ _ H3 hn3).mono ?_
      rintro e w4 ⟨q, vq, rfl, B4, R4, N4⟩
      have b4 := hide (b3.out.trans (B4.mono b3.out.size))
      have D4 := hide (W3.out.dis N4).symm
      have W4 := hide (W3.out.below B4 (Nat.le_refl _))
      have R4 : Hid (Rd w4 w.heap.size q vq lw (posP (pN ps) 0)) := R4
      clear H3 B3 b3 W3 N4
      go_wp2_with fail
      go_loopw [8] (fun i wr => ∃ k : Nat, k ≤ 100 ∧ i = .int .i64 (k : Int) ∧ Hid (Rd wr w.heap.size q vq lw (posP (pN ps) k)) ∧ Hid (Wr wr w.heap.size p v (numP (pN ps) (pX ps) 100) (posP (pN ps) 100)) ∧ Hid (Below w.heap.size w wr)) (fun i _ => 100 - (intOf i).toNat)
      case atStart => exact ⟨0, Nat.zero_le _, rfl, R4, W4, b4⟩
      case round =>
        clear R4 W4 b4
        obtain ⟨k, hk, rfl, R, W, B⟩ := hrel
        by_cases hkl : k < 100
        · have hk1 : (k : Int) < (len : Int) := by omega
          have hk2 : (k : Int) < 100 := by omega
          have c1 := (H.out.look B.out k (by omega)).1
          have c2 := (H.out.look B.out k (by omega)).2
          have AM := hide (H.out.amg k (by omega))
          have hx := H.out.x_lt k (by omega)
          have hn := hf.out k
          have e1 : Hid (posP (pN ps) (k + 1) = posP (pN ps) k + pN ps k) := rfl
          have hm := hide (posP_mono (pN ps) (show k + 1 ≤ 100 by omega))
          have hlo := hide Hl.out.lo
          have GE := hide (getRd R.out (pN ps k) hn (by have h1 := hm.out; have h2 := e1.out; have h3 := hlo.out; omega))
          rw [Hl.out.num, numP_read (pN ps) (pX ps) hkl hlo.out, ← e1.out] at GE
          have LO := hide (fun w => low_any (pX ps k) (pN ps k) hx hn w)
          clear R e1 hm hlo
          generalize pX ps k % 2 ^ pN ps k = Z at *
          generalize pN ps k = N at *
          generalize pX ps k = X at *
          generalize pC ps k = C at *
          go_wp2_with fail
          refine (AM.out _).mono ?_
          rintro e w5 ⟨rfl, rfl⟩
          go_wp2_with fail
          refine GE.out.mono ?_
          rintro e w6 ⟨rfl, R6, D6⟩
          have c6 : w6.cell? ⟨b, off + k * 2, none⟩ = some (.int .u64 (X : Int)) := (D6.bel.cell (p := ⟨b, off + k * 2, none⟩) (by have := World.block_lt_of_cell? _ _ c1; have := hblt.out; omega)).trans c1
          have W6 := hide (D6.wr D4.out W.out).1
          have B6 := hide (B.out.trans D6.bel)
          replace R6 := hide R6
          clear D6 GE W B c1 c2
          go_wp2_with (go_at_call 24; refine (LO.out _).mono ?_; rintro e w7 ⟨rfl, rfl⟩)
          go_roundw
          case rel => exact ⟨k + 1, by omega, by go_num, R6, W6, B6⟩
          case measure => simp [intOf]; omega
        · obtain rfl : 100 = k := by omega
          simp only [show ((100 : Nat) : Int) = 100 from rfl]
          have AT := hide (atRd R.out)
          have LE := hide (lenWr W.out)
          have LF := hide (leftRd R.out)
          have hle8 : ((8 * lw.length - posP (pN ps) 100 : Nat) : Int) < 8 := by have := Hl.out.hi; omega
          rw [← hP.out] at AT LE LF hle8
          generalize 8 * lw.length - P = d at *
          go_wp2_with fail
          refine AT.out.mono ?_
          rintro e w7 ⟨rfl, rfl⟩
          go_wp2_with fail
          refine LE.out.mono ?_
          rintro e w8 ⟨rfl, rfl⟩
          go_wp2_with fail
          refine LF.out.mono ?_
          rintro e w9 ⟨rfl, j, rfl⟩
          go_wp2_with fail
          go_ret
          exact ⟨ret_bool (by simp), below_drewN B.out j⟩

set_option maxHeartbeats 4000000 in
theorem walk_none (a0 : Option Addr) (len cap : Nat) (ps : List (Nat × Int)) (w : World) (H : HasP w (a0) len cap ps) (h1 : len = 0) :
    Calls Try.prog 5 #[.slice (a0) len cap] w fun e w' => e = .returned (.bool true) ∧ Below w.heap.size w w' := by
  have hle := H.le
  have hcb := H.capb
  unfold maxLen at hcb
  replace H := hide H
  have hf := hide (pN_le ps)
  have hz : Hid (posP (pN ps) 0 = 0 ∧ numP (pN ps) (pX ps) 0 = 0) := ⟨rfl, rfl⟩
  go_enter Try.func5, Try.ntmps5
  go_wp2_with fail
  refine (works_any _).mono ?_
  rintro e w1 ⟨rfl, B1⟩
  go_wp2_with fail
  refine (newWr _ w.heap.size B1.size).mono ?_
  rintro e w2 ⟨p, rfl, B2, Wp, Np⟩
  have b2 := hide (B1.trans (B2.mono B1.size))
  have Wp' : Hid (Wr w2 w.heap.size p (.slice none 0 0) (numP (pN ps) (pX ps) 0) (posP (pN ps) 0)) := by rw [hz.out.1, hz.out.2]; exact Wp
  clear Wp Np B1 B2
  go_wp2_with fail
  go_loopw [4, 5] (fun r i wr => ∃ (k P : Nat) (v : Value), k ≤ 0 ∧ i = .int .i64 (k : Int) ∧ r = .int .i64 (P : Int) ∧ Hid (P = posP (pN ps) k) ∧ Hid (Wr wr w.heap.size p v (numP (pN ps) (pX ps) k) (posP (pN ps) k)) ∧ Hid (Below w.heap.size w wr)) (fun _ i _ => 0 - (intOf i).toNat)
  case atStart => exact ⟨0, 0, _, Nat.zero_le _, rfl, rfl, hz.out.1.symm, Wp', b2⟩
  case round =>
    clear Wp' b2 hz
    obtain ⟨k, P, v, hk, rfl, rfl, hP, W, B⟩ := hrel
    by_cases hkl : k < 0
    · omega
    · obtain rfl : 0 = k := by omega
      have hpl := hide (posP_le hf.out 0)
      have hpb : posP (pN ps) 0 ≤ 6400 := by have := hpl.out; omega
      obtain ⟨lw, Hl⟩ := W.out.holds
      replace Hl := hide Hl
      have BY := hide (bytesWr W.out (by omega) lw Hl.out)
      go_wp2_with fail
      refine BY.out.mono ?_
      rintro e w3 ⟨a3, n3, c3, rfl, H3, B3, -⟩
      have hn3 : n3 ≤ 1099511627776 := by have h1 := H3.hlen; have h2 := Hl.out.hi; omega
      have b3 := hide (B.out.trans (B3.mono B.out.size))
      have W3 := hide (W.out.below B3 (Nat.le_refl _))
      clear BY W B
      go_wp2_with fail
      refine (newRd _ w.heap.size b3.out.size _ _ _ _ H3 hn3).mono ?_
      rintro e w4 ⟨q, vq, rfl, B4, R4, N4⟩
      have b4 := hide (b3.out.trans (B4.mono b3.out.size))
      have D4 := hide (W3.out.dis N4).symm
      have W4 := hide (W3.out.below B4 (Nat.le_refl _))
      have R4 : Hid (Rd w4 w.heap.size q vq lw (posP (pN ps) 0)) := R4
      clear H3 B3 b3 W3 N4
      go_wp2_with fail
      go_loopw [8] (fun i wr => ∃ k : Nat, k ≤ 0 ∧ i = .int .i64 (k : Int) ∧ Hid (Rd wr w.heap.size q vq lw (posP (pN ps) k)) ∧ Hid (Wr wr w.heap.size p v (numP (pN ps) (pX ps) 0) (posP (pN ps) 0)) ∧ Hid (Below w.heap.size w wr)) (fun i _ => 0 - (intOf i).toNat)
      case atStart => exact ⟨0, Nat.zero_le _, rfl, R4, W4, b4⟩
      case round =>
        clear R4 W4 b4
        obtain ⟨k, hk, rfl, R, W, B⟩ := hrel
        by_cases hkl : k < 0
        · omega
        · obtain rfl : 0 = k := by omega
          have AT := hide (atRd R.out)
          have LE := hide (lenWr W.out)
          have LF := hide (leftRd R.out)
          have hle8 : ((8 * lw.length - posP (pN ps) 0 : Nat) : Int) < 8 := by have := Hl.out.hi; omega
          rw [← hP.out] at AT LE LF hle8
          generalize 8 * lw.length - P = d at *
          go_wp2_with fail
          refine AT.out.mono ?_
          rintro e w7 ⟨rfl, rfl⟩
          go_wp2_with fail
          refine LE.out.mono ?_
          rintro e w8 ⟨rfl, rfl⟩
          go_wp2_with fail
          refine LF.out.mono ?_
          rintro e w9 ⟨rfl, j, rfl⟩
          go_wp2_with fail
          go_ret
          exact ⟨ret_bool (by simp), below_drewN B.out j⟩

theorem walk (a0 : Option Addr) (len0 cap0 : Nat) (l0 : List (Nat × Int)) (w : World) (H : HasP w a0 len0 cap0 l0) :
    Calls Try.prog 5 #[.slice a0 len0 cap0] w fun e w' => e = .returned (.bool true) ∧ Below w.heap.size w w' := by
  by_cases h0 : len0 = 0
  · exact walk_none a0 len0 cap0 l0 w H h0
  · obtain ⟨b, off, rfl, _⟩ := H.cells (by omega)
    by_cases h1 : len0 ≤ 100
    · exact walk_few b off len0 cap0 l0 w H (by omega) h1
    · exact walk_many b off len0 cap0 l0 w H (by omega)


set_option maxRecDepth 100000 in
theorem lifted (os : Os) (started : os.Started) (H : Type) (enc : TypeId × Value → H) :
    ReturnsInHanded {} Try.checked os 5 .any (Rows.bitsBackSpec.pre6 enc Try.prog Try.f5 Rows.bitsBackRow.domain false) (Rows.bitsBackSpec.post enc Try.prog Try.f5 false true false false) := by
  refine returnsInHanded_of_change (C := Try.checked) own started (by kernel_rfl) Try.func5
    (ChangeSpec.witness6 (enc := enc) (C := Try.checked) false ⟨#[], #[.slice none 0 0], []⟩ 8 (by kernel_rfl) (by kernel_rfl) (by kernel_rfl) (by kernel_rfl)) ?_
  intro W base args ds gs before hval0 hW hcnd _
  have hval : ∀ (j : Nat) t v, Try.f5.params[j]? = some t → args[j]? = some v → Value.okWide Try.prog W .any base t v := hval0
  have hW' := hW
  obtain ⟨p, q, hA0, hV, rfl, hfz, hnd⟩ := hW
  have hA : DataW.TrodAll enc Try.prog W 0 (fun _ => true) true Try.f5.params.toList args.toList ds p := hA0
  rw [Try.params5] at hA hval
  obtain ⟨v0, vs0, d0, ds0, p0, q0, hargs, rfl, rfl, h0, r0⟩ := trodAll_cons hA
  obtain ⟨rfl, rfl, rfl⟩ := trodAll_nil r0
  obtain rfl : args = #[v0] := by cases args; simp_all
  obtain ⟨rfl, rfl⟩ := trodVars_none hV
  obtain ⟨a0, len0, cap0, rfl⟩ := okWide_slice Try.underlying22 (hval 0 22 v0 rfl rfl)
  have k0 := h0
  have lt0 : ∀ x ∈ p0, x.block < W.heap.size := by obtain ⟨m, hm⟩ := k0; exact DataW.trod_lt m _ _ _ hm
  obtain ⟨l0, w0⟩ := came_parts h0
  clear hA0 hval0
  refine (walk a0 len0 cap0 l0 W w0).mono fun e W' ⟨he, bel⟩ => ?_
  subst he
  exact ⟨_, rfl, _, _, _, [], _, [], hW', trodAll_mk1 (shut_bool Try.underlying4 _), (trodAll_cons_mk (Below.trod laidOut (by kernel_rfl) (of_decide_eq_true (by kernel_rfl)) k0 bel lt0) trodAll_mk0), rfl, bel.frame _, fun h => by cases h⟩

theorem over : Rows.bitsBackRow.holds Try.pinned (OpenSpec.ofChange Rows.bitsBackSpec) :=
  OpenClaim.holds_of_wide 5 Try.f5 rfl rfl rfl rfl rfl rfl rfl ⟨rfl, rfl, rfl, rfl, rfl⟩ rfl rfl rfl rfl rfl (by kernel_rfl) Try.func5 (by kernel_rfl)
    (of_decide_eq_true (by kernel_rfl)) (by unfold Func.isWrapper; first | (rw [if_pos (by decide +kernel)]; kernel_rfl) | (rw [if_neg (by decide +kernel)]; exact ⟨rfl, rfl⟩))
    (fun os started H enc _ => lifted os started H enc)

/-- The statement. -/
theorem proved : Rows.BitsBackSaid := over
#print axioms proved
end Go.Proofs.Ytgmhnfgpkoebiaa.bitsBack
