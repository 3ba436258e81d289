/-
  The walk of the reference's Reader.Get.
-/
import Derived.Test.YtmddkinecplooaaDoorL
namespace Go.Proofs.YtmddkinecplooaaDoor
open Go.RowKit
set_option linter.unusedVariables false

/-- The reference's reader of the slice (a, len, cap), at the place n. -/
structure Ref (w : World) (base p : Nat) (a : Option Addr) (len cap : Nat) (n : Nat) : Prop where
  heap : w.heap[p]? = some (.cells #[.slice a len cap, .int .i64 (n : Int)] 52 (0, 0))
  ge : base ≤ p
section
variable {w w' : World} {base p len cap n : Nat} {a : Option Addr}
theorem Ref.lt (h : Ref w base p a len cap n) : p < w.heap.size := (Array.getElem?_eq_some_iff.1 h.heap).1
theorem Ref.c0 (h : Ref w base p a len cap n) : w.cell? ⟨p, 0, none⟩ = some (.slice a len cap) := by rw [cell_of_row w p 0 _ 52 (0, 0) h.heap]; rfl
theorem Ref.c1 (h : Ref w base p a len cap n) : w.cell? ⟨p, 1, none⟩ = some (.int .i64 (n : Int)) := by rw [cell_of_row w p 1 _ 52 (0, 0) h.heap]; rfl
theorem Ref.fz (h : Ref w base p a len cap n) (i : Nat) : w.frozen? ⟨p, i, none⟩ = false := frozen_of_row w p i _ 52 h.heap
theorem Ref.drewN (h : Ref w base p a len cap n) (k : Nat) : Ref (w.drewN k) base p a len cap n := ⟨h.heap, h.ge⟩
theorem Ref.setAt (h : Ref w base p a len cap n) (m : Nat) : Ref (w.setCell ⟨p, 1, none⟩ (.int .i64 (m : Int))) base p a len cap m := by
  refine ⟨?_, h.ge⟩
  rw [heap_setCell_same w p 1 _ 52 _ h.heap]
  rfl
theorem Ref.kept (h : Ref w base p a len cap n) {S : Nat → Prop} (hb : But S w w') (hS : ¬ S p) : Ref w' base p a len cap n := ⟨(hb.block p h.lt hS).trans h.heap, h.ge⟩
theorem Ref.below (h : Ref w base p a len cap n) {B : Nat} (hb : Below B w w') (hB : w.heap.size ≤ B) : Ref w' base p a len cap n := ⟨(hb.block p (by have := h.lt; omega)).trans h.heap, h.ge⟩
theorem Ref.bel (h : Ref w base p a len cap n) (hb : But (fun k => k = p) w w') : Below base w w' := hb.below (by have := h.lt; have := h.ge; omega) (fun k hk => by rw [hk]; exact h.ge)
end

theorem bit_more {V N P k X : Nat} (h : P + k + 1 ≤ 8 * N) (hX : X = rd V N P k) : 2 * X + rd V N (P + k) 1 = rd V N P (k + 1) := by
  rw [rd_more V N P k 1 h, ← hX]
  omega

set_option maxHeartbeats 1000000 in
theorem rget_arg {w : World} {p : Nat} (n : Int) (hn : ¬ (0 ≤ n ∧ n ≤ 64)) :
    Calls Tryd.prog 24 #[.pointer (some ⟨p, 0, none⟩), .int .i64 n] w fun e w' => e = .returned (.tuple #[.int .u64 0, .int .i64 2]) ∧ w' = w := by
  by_cases h0 : n < 0
  · go_enter Tryd.func24, Tryd.ntmps24
    go_wp2_with fail
    go_ret2
    exact ⟨rfl, rfl⟩
  · have h1 : 64 < n := by omega
    go_enter Tryd.func24, Tryd.ntmps24
    go_wp2_with fail
    go_ret2
    exact ⟨rfl, rfl⟩

set_option maxHeartbeats 1000000 in
theorem rget_bits {w : World} {base p len cap n0 : Nat} {a : Option Addr} (h : Ref w base p a len cap n0) (hlen : len ≤ 300) (n : Nat) (hn : n ≤ 64) (h0 : n0 ≤ 8 * len) (hroom : 8 * len < n0 + n) :
    Calls Tryd.prog 24 #[.pointer (some ⟨p, 0, none⟩), .int .i64 (n : Int)] w fun e w' => e = .returned (.tuple #[.int .u64 0, .int .i64 50]) ∧ ∃ k, w' = w.drewN k := by
  have c0 := h.c0
  have c1 := h.c1
  have hr : 8 * (len : Int) - (n0 : Int) < (n : Int) := by omega
  clear h
  go_enter Tryd.func24, Tryd.ntmps24
  go_wp2_with fail
  go_quiet (fail)
  go_wp2_with fail
  go_ret2
  exact ⟨rfl, _, rfl⟩

set_option maxHeartbeats 2000000 in
theorem rget_ok {w : World} {base p len cap n0 : Nat} {a : Option Addr} {l : List Int} (h : Ref w base p a len cap n0) (H : Has w a len cap l) (hap : 0 < len → ∀ b off, a = some ⟨b, off, none⟩ → b < base) (hlen : len ≤ 300) (n : Nat) (hn : n ≤ 64) (hroom : n0 + n ≤ 8 * len) :
    Calls Tryd.prog 24 #[.pointer (some ⟨p, 0, none⟩), .int .i64 (n : Int)] w fun e w' => e = .returned (.tuple #[.int .u64 ((rd (num l) len n0 n : Nat) : Int), .int .i64 0]) ∧ Ref w' base p a len cap (n0 + n) ∧ But (fun k => k = p) w w' := by
  have c0 := h.c0
  have c1 := h.c1
  have hr : (n : Int) ≤ 8 * (len : Int) - (n0 : Int) := by omega
  have hr2 : decide (8 * (len : Int) - (n0 : Int) < (n : Int)) = false := by simp; omega
  have hz := hide (rd_zero (num l) len n0)
  have hll : Hid (l.length = len) := H.hlen
  replace h := hide h
  replace H := hide H
  replace hap := hide hap
  go_enter Tryd.func24, Tryd.ntmps24
  go_wp2_with fail
  go_quiet (fail)
  go_wp2_with fail
  go_loopw [6, 7] (fun X i wr => ∃ (k Y : Nat), i = .int .i64 (k : Int) ∧ k ≤ n ∧ X = .int .u64 (Y : Int) ∧ Hid (Y = rd (num l) len n0 k) ∧ Hid (Ref wr base p a len cap (n0 + k)) ∧ Hid (But (fun k => k = p) w wr)) (fun _ i _ => n - (intOf i).toNat)
  case atStart => exact ⟨0, 0, rfl, Nat.zero_le _, rfl, hz.out.symm, h.out.drewN _, (But.refl _ _).drewN _⟩
  case round =>
    clear c0 c1 hz h
    obtain ⟨k, Y, rfl, hk, rfl, hY, O, B⟩ := hrel
    by_cases hkn : k < n
    · have hk1 : (k : Int) < (n : Int) := by omega
      have hlt : 0 < len := by omega
      obtain ⟨b, off, ha, hb, hc⟩ := H.out.cells hlt
      obtain ⟨m, hm⟩ : ∃ m, n0 + k = m := ⟨_, rfl⟩
      rw [hm] at O
      obtain ⟨q, hq⟩ : ∃ q, m / 8 = q := ⟨_, rfl⟩
      have hq2 : q < len := by omega
      have c0 := O.out.c0
      have c1 := O.out.c1
      have fz := O.out.fz 1
      have cq : wr.cell? ⟨b, off + q, none⟩ = some (.int .u8 (l.getD q 0)) := by
        have h1 := hc q hq2
        have h2 := hap.out hlt b off ha
        have h3 := O.out.ge
        rw [World.cell?_of_block (a := ⟨b, off + q, none⟩) (B.out.block b hb (by omega))]
        exact h1
      have hby := getD_byteR H.out.bytes q (by rw [hll.out]; exact hq2)
      have hbit := rd_byte l H.out.bytes m 1 (7 - m % 8) (by rw [hll.out]; omega) (by omega)
      rw [hq, hll.out] at hbit
      have hmore := hide (bit_more (V := num l) (N := len) (show n0 + k + 1 ≤ 8 * len by omega) hY.out)
      rw [hm, ← hbit] at hmore
      have hYl : Y < 2 ^ k := by rw [hY.out]; exact rd_lt _ _ _ _
      have hYb : (Y : Int) < 9223372036854775808 := by
        have : 2 ^ k ≤ 2 ^ 63 := Nat.pow_le_pow_right (by decide) (by omega)
        omega
      obtain ⟨c0', hc0'⟩ : ∃ c : Nat, l.getD q 0 = (c : Int) := ⟨(l.getD q 0).toNat, by omega⟩
      rw [hc0'] at cq hby hmore
      rw [Int.toNat_natCast] at hmore
      have hcb : (c0' : Int) ≤ 255 := hby.2
      have e1 : (m : Int) / 8 = (q : Int) := by omega
      have hmb : (m : Int) ≤ 2400 := by omega
      have hq3 : (q : Int) < (len : Int) := by omega
      have hq5 : (0 : Int) ≤ (q : Int) := by omega
      have hq6 : IntKind.i64.wrap (q : Int) = (q : Int) := by unfold IntKind.wrap; simp [IntKind.bits, IntKind.signed]; omega
      obtain ⟨s, hs⟩ : ∃ s, m % 8 = s := ⟨_, rfl⟩
      have e2 : (m : Int) % 8 = (s : Int) := by omega
      have hs8 : s < 8 := by omega
      rw [hs] at hmore
      have FIN : Hid (∀ wx : World, Ref wx base p a len cap m → But (fun k => k = p) w wx → Hid (Ref (wx.setCell ⟨p, 1, none⟩ (.int .i64 ((n0 + (k + 1) : Nat) : Int))) base p a len cap (n0 + (k + 1))) ∧ Hid (But (fun k => k = p) w (wx.setCell ⟨p, 1, none⟩ (.int .i64 ((n0 + (k + 1) : Nat) : Int))))) := fun wx h1 h2 =>
        ⟨h1.setAt _, h2.setCell (p := ⟨p, 1, none⟩) (fun _ => rfl) _⟩
      have e3 : (m : Int) + 1 = ((n0 + (k + 1) : Nat) : Int) := by omega
      clear hc hc0' hby hbit hs hq hm hYl
      subst ha
      go_wp2_with fail
      go_quiet (fail)
      go_wp2_with fail
      go_loop [8, 9] (fun bb i => ∃ j c : Nat, s ≤ j ∧ j ≤ 7 ∧ i = .int .i64 (j : Int) ∧ bb = .int .i64 (c : Int) ∧ c ≤ 255 ∧ Hid (c = c0' / 2 ^ (j - s))) (fun _ i => 7 - (intOf i).toNat)
      case atStart => exact ⟨s, c0', Nat.le_refl _, by omega, v64 e2, rfl, by omega, by rw [Nat.sub_self, Nat.pow_zero]; exact (Nat.div_one _).symm⟩
      case round =>
        obtain ⟨j, c, hj1, hj2, rfl, rfl, hcb2, hcj⟩ := hrel
        by_cases hj : j < 7
        · have hj3 : (j : Int) < 7 := by omega
          have hnext : Hid (c / 2 = c0' / 2 ^ (j + 1 - s)) := by
            show c / 2 = _
            rw [hcj.out, Nat.div_div_eq_div_mul, ← Nat.pow_succ, show (j - s).succ = j + 1 - s by omega]
          go_wp2_with fail
          go_round
          case rel => exact ⟨j + 1, c / 2, by omega, by omega, by go_num, v64 (by omega), by omega, hnext⟩
          case measure => simp [intOf]; omega
        · obtain rfl : 7 = j := by omega
          simp only [show ((7 : Nat) : Int) = 7 from rfl]
          have hY2 : Hid (2 * Y + c % 2 = rd (num l) len n0 (k + 1)) := by
            have := hmore.out
            rw [Nat.pow_one, ← hcj.out] at this
            exact this
          go_wp2_with fail
          go_roundw
          case rel => exact ⟨k + 1, 2 * Y + c % 2, by go_num, by omega, vu (by omega), hY2, (FIN.out _ (O.out.drewN _) (B.out.drewN _)).1, (FIN.out _ (O.out.drewN _) (B.out.drewN _)).2⟩
          case measure => simp [intOf]; omega
    · obtain rfl : n = k := by omega
      go_wp2_with fail
      go_ret2
      refine ⟨?_, O.out, B.out⟩
      rw [← hY.out]
      rfl
end Go.Proofs.YtmddkinecplooaaDoor
