/-
  The walk of bits.Reader.Get.
-/
import Derived.Test.YtmddkinecplooaaDoorD
namespace Go.Proofs.YtmddkinecplooaaDoor
open Go.RowKit
set_option linter.unusedVariables false

theorem piece_valR {k m : Nat} (hk : 0 < k) (hk2 : k ≤ 64) : ∃ s b k' q : Nat, min k (8 - m % 8) = s ∧ 8 - m % 8 - s = b ∧ k = k' + s ∧ m / 8 = q ∧ 1 ≤ s ∧ s ≤ 8 ∧ b < 8 ∧ m % 8 + s + b = 8 := by
  refine ⟨min k (8 - m % 8), 8 - m % 8 - min k (8 - m % 8), k - min k (8 - m % 8), m / 8, rfl, rfl, ?_, rfl, ?_, ?_, ?_, ?_⟩ <;> omega
theorem getD_byteR {l : List Int} (h : ∀ x ∈ l, 0 ≤ x ∧ x ≤ 255) (q : Nat) (hq : q < l.length) : 0 ≤ l.getD q 0 ∧ l.getD q 0 ≤ 255 := by
  apply h
  simp [List.getD, List.getElem?_eq_getElem hq]
theorem shr_int (c : Int) (hc : 0 ≤ c) (b : Nat) : c / 2 ^ b = ((c.toNat / 2 ^ b : Nat) : Int) := by
  obtain ⟨d, rfl⟩ := Int.eq_ofNat_of_zero_le hc
  simp

theorem or_num {X y j s : Nat} (hX : X < 2 ^ j) (hy : y < 2 ^ s) (h : j + s ≤ 64) : bits BinOp.or IntKind.u64 (IntKind.u64.wrap ((X : Int) * 2 ^ s)) (y : Int) = ((X * 2 ^ s + y : Nat) : Int) := by
  have h1 : X * 2 ^ s + y < 2 ^ (j + s) := by
    rw [Nat.pow_add]
    calc X * 2 ^ s + y < X * 2 ^ s + 2 ^ s := by omega
      _ = (X + 1) * 2 ^ s := by rw [Nat.add_mul, Nat.one_mul]
      _ ≤ 2 ^ j * 2 ^ s := Nat.mul_le_mul_right _ hX
  have h2 : 2 ^ (j + s) ≤ 2 ^ 64 := Nat.pow_le_pow_right (by decide) h
  have h3 : IntKind.u64.wrap ((X : Int) * 2 ^ s) = ((X * 2 ^ s : Nat) : Int) := by
    rw [IntKind.wrap_u64, show (X : Int) * 2 ^ s = ((X * 2 ^ s : Nat) : Int) by simp]
    omega
  rw [h3, u64_or_nat _ _ (by omega) (by omega), or_add _ _ _ hy]

set_option maxHeartbeats 1000000 in
theorem get_ok {w : World} {base p : Nat} {v : Value} {l : List Int} {n0 : Nat} (h : Oct w base p 88 v l n0) (hl : ∀ x ∈ l, 0 ≤ x ∧ x ≤ 255) (hlen : l.length ≤ 1099511627776) (n : Nat) (hn : n ≤ 64) (hroom : n0 + n ≤ 8 * l.length) :
    Calls Tryd.prog 23 #[.pointer (some ⟨p, 0, none⟩), .int .i64 (n : Int)] w fun e w' => e = .returned (.tuple #[.int .u64 ((rd (num l) l.length n0 n : Nat) : Int), .int .i64 0]) ∧ Oct w' base p 88 v l (n0 + n) ∧ But (fun k => k = p) w w' := by
  have c1 := h.c1
  have c2 := h.c2
  have hs : Hid (∀ w, Calls Tryd.prog 34 #[.int .i64 (n : Int)] w fun e w' => e = .returned (.bool true) ∧ w' = w) := fun w => by
    have := isSize_any n w
    rwa [show decide (0 ≤ (n : Int) ∧ (n : Int) ≤ 64) = true by simp; omega] at this
  have LF := hide (left_any h (by omega) hlen)
  have hr : (n : Int) ≤ ((8 * l.length - n0 : Nat) : Int) := by omega
  have hr' : decide (((8 * l.length - n0 : Nat) : Int) < (n : Int)) = false := by simp; omega
  have hr2 : decide (8 * l.length - n0 < n) = false := by simp; omega
  have hz := hide (rd_zero (num l) l.length n0)
  replace h := hide h
  replace hl := hide hl
  go_enter Tryd.func23, Tryd.ntmps23
  go_wp2_with (first
    | (go_at_call 34; refine (hs.out _).mono ?_; rintro e w ⟨rfl, rfl⟩)
    | (go_at_call 35; refine LF.out.mono ?_; rintro e wq ⟨rfl, j, rfl⟩))
  go_loopw [6, 7] (fun X r wr => ∃ (k Y : Nat), r = .int .i64 (k : Int) ∧ k ≤ n ∧ X = .int .u64 (Y : Int) ∧ Hid (Y = rd (num l) l.length n0 (n - k)) ∧ Hid (Oct wr base p 88 v l (n0 + n - k)) ∧ Hid (But (fun k => k = p) w wr)) (fun _ r _ => (intOf r).toNat)
  case atStart =>
    refine ⟨n, 0, rfl, Nat.le_refl _, rfl, ?_, ?_, (But.refl _ _).drewN j⟩
    · rw [Nat.sub_self]; exact hz.out.symm
    · rw [show n0 + n - n = n0 by omega]; exact h.out.drewN j
  case round =>
    clear c1 c2 h hs LF hz
    obtain ⟨k, Y, rfl, hkn, rfl, hY, O, B⟩ := hrel
    by_cases hk : k = 0
    · subst hk
      go_wp2_with fail
      go_ret2
      refine ⟨?_, O.out, B.out⟩
      rw [show n - 0 = n by omega] at hY
      rw [← hY.out]
      rfl
    · obtain ⟨m, hm⟩ : ∃ m, n0 + n - k = m := ⟨_, rfl⟩
      rw [hm] at O
      have hk0 : (0 : Int) < (k : Int) := by omega
      obtain ⟨s, b, k', q, es, eb, ek, eq, hs1, hs8, hb8, h8⟩ := piece_valR (m := m) (show 0 < k by omega) (by omega)
      have P := hide (piece_any O.out (by omega) k (by omega))
      rw [es, eb] at P
      have hc0 := O.out.c0
      have hc1 := O.out.c1
      have hfz := O.out.fz 1
      have hq2 : q < l.length := by omega
      obtain ⟨g, c, hv⟩ : ∃ g c, v = .slice (some ⟨g, 0, none⟩) l.length c := by
        rcases O.out.own.2 with ⟨_, h1⟩ | ⟨g, cap, cur, h1, _⟩
        · omega
        · exact ⟨g, cap, h1⟩
      have hcq : wr.cell? ⟨g, q, none⟩ = some (.int .u8 (l.getD q 0)) := by
        have := O.out.own.cells (g := g) (by rw [hv]; rfl) q (.int .u8 (l.getD q 0)) (by simp [List.getD, List.getElem?_eq_getElem hq2])
        rwa [add_plain, Nat.zero_add] at this
      have hby := getD_byteR hl.out q hq2
      obtain ⟨y, hy⟩ : ∃ y, (l.getD q 0).toNat / 2 ^ b % 2 ^ s = y := ⟨_, rfl⟩
      have hy2 : y < 2 ^ s := by rw [← hy]; exact Nat.mod_lt _ (Nat.two_pow_pos s)
      have hrd : y = rd (num l) l.length m s := by rw [← hy, ← eq]; exact rd_byte l hl.out m s b (by omega) h8
      have L : Hid (∀ w, Calls Tryd.prog 45 #[.int .u8 (l.getD q 0 / 2 ^ b), .int .i64 (s : Int)] w fun e w' => e = .returned (.int .u8 (y : Int)) ∧ w' = w) := fun w => by
        rw [shr_int _ hby.1]
        have := low8_any ((l.getD q 0).toNat / 2 ^ b) s w (Nat.lt_of_le_of_lt (Nat.div_le_self _ _) (by omega)) hs8
        rwa [hy] at this
      have hYlt : Y < 2 ^ (n - k) := by rw [hY.out]; exact rd_lt _ _ _ _
      have ho := or_num hYlt hy2 (by omega)
      have hmore : Hid (Y * 2 ^ s + y = rd (num l) l.length n0 (n - k')) := by
        show Y * 2 ^ s + y = _
        rw [show n - k' = (n - k) + s by omega, rd_more _ _ _ _ _ (by omega), hrd, hY.out, show n0 + (n - k) = m by omega]
      have e1 : (k : Int) - (s : Int) = (k' : Int) := by omega
      have e2 : (m : Int) / 8 = (q : Int) := by omega
      have e3 : (m : Int) + (s : Int) = ((n0 + n - k' : Nat) : Int) := by omega
      have hmb : (m : Int) ≤ 8796093022208 := by omega
      have hq3 : (q : Int) < (l.length : Int) := by omega
      have hq5 : (0 : Int) ≤ (q : Int) := by omega
      have hq6 : IntKind.i64.wrap (q : Int) = (q : Int) := by unfold IntKind.wrap; simp [IntKind.bits, IntKind.signed]; omega
      have hmin : min b 8 = b := by omega
      have hkb : k' ≤ 64 := by omega
      have hkn' : k' < k := by omega
      have hk'n : k' ≤ n := by omega
      have hy3 : y < 256 := Nat.lt_of_lt_of_le hy2 (by have := Nat.pow_le_pow_right (n := 2) (by decide) hs8; omega)
      have FIN : Hid (∀ wx : World, Oct wx base p 88 v l m → But (fun k => k = p) w wx → Hid (Oct (wx.setCell ⟨p, 1, none⟩ (.int .i64 ((n0 + n - k' : Nat) : Int))) base p 88 v l (n0 + n - k')) ∧ Hid (But (fun k => k = p) w (wx.setCell ⟨p, 1, none⟩ (.int .i64 ((n0 + n - k' : Nat) : Int))))) := fun wx h1 h2 =>
        ⟨h1.setAt _, h2.setCell (p := ⟨p, 1, none⟩) (fun _ => rfl) _⟩
      generalize Y * 2 ^ s + y = Z at ho hmore
      clear hy es eb h8 eq hrd ek hm
      generalize l.getD q 0 = c0 at hcq hby L
      rw [hv] at hc0
      have hb1 := hby.1
      have hb2 := hby.2
      clear hby
      go_wp2_with (go_at_call 36; refine P.out.mono ?_; rintro e wq ⟨rfl, rfl⟩)
      go_quiet ((go_at_call 45; exact Calls.quiet_of_same (L.out _)))
      go_wp2_with fail
      go_roundw
      case rel => exact ⟨k', Z, rfl, hk'n, rfl, hmore, (FIN.out _ (O.out.drewN _) (B.out.drewN _)).1, (FIN.out _ (O.out.drewN _) (B.out.drewN _)).2⟩
      case measure => simp [intOf]; omega

set_option maxHeartbeats 1000000 in
theorem get_bits {w : World} {base p : Nat} {v : Value} {l : List Int} {n0 : Nat} (h : Oct w base p 88 v l n0) (hlen : l.length ≤ 1099511627776) (n : Nat) (hn : n ≤ 64) (h0 : n0 ≤ 8 * l.length) (hroom : 8 * l.length < n0 + n) :
    Calls Tryd.prog 23 #[.pointer (some ⟨p, 0, none⟩), .int .i64 (n : Int)] w fun e w' => e = .returned (.tuple #[.int .u64 0, .int .i64 50]) ∧ ∃ k, w' = w.drewN k := by
  have c1 := h.c1
  have c2 := h.c2
  have hs : Hid (∀ w, Calls Tryd.prog 34 #[.int .i64 (n : Int)] w fun e w' => e = .returned (.bool true) ∧ w' = w) := fun w => by
    have := isSize_any n w
    rwa [show decide (0 ≤ (n : Int) ∧ (n : Int) ≤ 64) = true by simp; omega] at this
  have LF := hide (left_any h h0 hlen)
  have hr : ((8 * l.length - n0 : Nat) : Int) < (n : Int) := by omega
  clear h
  go_enter Tryd.func23, Tryd.ntmps23
  go_wp2_with (first
    | (go_at_call 34; refine (hs.out _).mono ?_; rintro e w ⟨rfl, rfl⟩)
    | (go_at_call 35; refine LF.out.mono ?_; rintro e wq ⟨rfl, j, rfl⟩))
  go_ret2
  exact ⟨rfl, j, rfl⟩

set_option maxHeartbeats 1000000 in
theorem get_arg {w : World} {base p : Nat} {v : Value} {l : List Int} {n0 : Nat} (h : Oct w base p 88 v l n0) (n : Int) (hn : ¬ (0 ≤ n ∧ n ≤ 64)) :
    Calls Tryd.prog 23 #[.pointer (some ⟨p, 0, none⟩), .int .i64 n] w fun e w' => e = .returned (.tuple #[.int .u64 0, .int .i64 2]) ∧ w' = w := by
  have c2 := h.c2
  have hs : Hid (∀ w, Calls Tryd.prog 34 #[.int .i64 n] w fun e w' => e = .returned (.bool false) ∧ w' = w) := fun w => by
    have := isSize_any n w
    rwa [show decide (0 ≤ n ∧ n ≤ 64) = false by simpa using hn] at this
  clear h hn
  go_enter Tryd.func23, Tryd.ntmps23
  go_wp2_with (go_at_call 34; refine (hs.out _).mono ?_; rintro e w ⟨rfl, rfl⟩)
  go_ret2
  exact ⟨rfl, rfl⟩

set_option maxHeartbeats 1000000 in
theorem put_arg {w : World} {base p : Nat} {v : Value} {l : List Int} {n0 : Nat} (h : Oct w base p 74 v l n0) (x n : Int) (hn : ¬ (0 ≤ n ∧ n ≤ 64)) :
    Calls Tryd.prog 10 #[.pointer (some ⟨p, 0, none⟩), .int .u64 x, .int .i64 n] w fun e w' => e = .returned (.int .i64 2) ∧ w' = w := by
  have c2 := h.c2
  have hs : Hid (∀ w, Calls Tryd.prog 34 #[.int .i64 n] w fun e w' => e = .returned (.bool false) ∧ w' = w) := fun w => by
    have := isSize_any n w
    rwa [show decide (0 ≤ n ∧ n ≤ 64) = false by simpa using hn] at this
  clear h hn
  go_enter Tryd.func10, Tryd.ntmps10
  go_wp2_with (go_at_call 34; refine (hs.out _).mono ?_; rintro e w ⟨rfl, rfl⟩)
  go_ret
  exact ⟨rfl, rfl⟩

theorem among_val (x : Int) (n : Nat) (h1 : 1 ≤ n) : 0 ≤ (IntKind.u64.wrap x).tmod (n : Int) ∧ (IntKind.u64.wrap x).tmod (n : Int) < (n : Int) := by
  rw [IntKind.wrap_u64]
  have h : 0 ≤ x % 18446744073709551616 := Int.emod_nonneg _ (by decide)
  rw [Int.tmod_eq_emod_of_nonneg h]
  exact ⟨Int.emod_nonneg _ (by omega), Int.emod_lt_of_pos _ (by omega)⟩
theorem among_wrap (y : Int) {n : Nat} (v : 0 ≤ y ∧ y < (n : Int)) (h2 : n ≤ 9223372036854775807) : wrap64 y = ((y.toNat : Nat) : Int) := by
  unfold wrap64
  omega
/-- A number as one from 0 to n - 1. -/
def amg (x : Int) (n : Nat) : Nat := ((IntKind.u64.wrap x).tmod (n : Int)).toNat
theorem amg_lt (x : Int) (n : Nat) (h1 : 1 ≤ n) : amg x n < n := by have := among_val x n h1; unfold amg; omega

set_option maxHeartbeats 400000 in
theorem among_any (x : Int) (n : Nat) (hx : -9223372036854775808 ≤ x ∧ x ≤ 9223372036854775807) (h1 : 1 ≤ n) (h2 : n ≤ 9223372036854775807) (w : World) :
    Calls Tryd.prog 9 #[.int .i64 x, .int .i64 (n : Int)] w fun e w' => e = .returned (.int .i64 (amg x n : Int)) ∧ w' = w := by
  have hn : (1 : Int) ≤ (n : Int) := by omega
  have hn' : (n : Int) ≤ 9223372036854775807 := by omega
  go_enter Tryd.func9, Tryd.ntmps9
  go_wp2
  go_ret
  have v := among_val x n h1
  exact ⟨ret_int (among_wrap _ v h2), rfl⟩
end Go.Proofs.YtmddkinecplooaaDoor
