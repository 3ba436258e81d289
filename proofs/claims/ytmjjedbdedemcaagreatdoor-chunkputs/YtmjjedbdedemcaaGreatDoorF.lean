/-
  bits.Reader.Get; writers and readers side by side.
-/
import Derived.Test.YtmjjedbdedemcaaGreatDoorE
import Derived.Test.YtmjjedbdedemcaaGreatDoorRows
import Derived.ProofKit
import Derived.OpenShut
import Derived.Deep.SlicePairs
namespace Go.Proofs.YtmjjedbdedemcaaGreatDoor
open Go.RowKit
set_option linter.unusedVariables false

theorem piece_valR {k m : Nat} (hk : 0 < k) (hk2 : k ≤ 64) : ∃ s b k' q : Nat, min k (8 - m % 8) = s ∧ 8 - m % 8 - s = b ∧ k = k' + s ∧ m / 8 = q ∧ 1 ≤ s ∧ s ≤ 8 ∧ b < 8 ∧ m % 8 + s + b = 8 := by
  refine ⟨min k (8 - m % 8), 8 - m % 8 - min k (8 - m % 8), k - min k (8 - m % 8), m / 8, rfl, rfl, ?_, rfl, ?_, ?_, ?_, ?_⟩ <;> omega
theorem getD_byteR {l : List Int} (h : ∀ x ∈ l, 0 ≤ x ∧ x ≤ 255) (q : Nat) (hq : q < l.length) : 0 ≤ l.getD q 0 ∧ l.getD q 0 ≤ 255 := by
  apply h
  simp [List.getD, List.getElem?_eq_getElem hq]
theorem shr_int (c : Int) (hc : 0 ≤ c) (b : Nat) : c / 2 ^ b = ((c.toNat / 2 ^ b : Nat) : Int) := by
  obtain ⟨d, rfl⟩ := Int.eq_ofNat_of_zero_le hc
  simp

theorem or_num {X y j s : Nat} (hX : X < 2 ^ j) (hy : y < 2 ^ s) (h : j + s ≤ 64) : bits BinOp.or IntKind.u64 (IntKind.u64.wrap ((X : Int) * 2 ^ s)) (y : Int) = ((X * 2 ^ s + y : Nat) : Int) := by
  have h1 : X * 2 ^ s + y < 2 ^ (j + s) := by
    rw [Nat.pow_add]
    calc X * 2 ^ s + y < X * 2 ^ s + 2 ^ s := by omega
      _ = (X + 1) * 2 ^ s := by rw [Nat.add_mul, Nat.one_mul]
      _ ≤ 2 ^ j * 2 ^ s := Nat.mul_le_mul_right _ hX
  have h2 : 2 ^ (j + s) ≤ 2 ^ 64 := Nat.pow_le_pow_right (by decide) h
  have h3 : IntKind.u64.wrap ((X : Int) * 2 ^ s) = ((X * 2 ^ s : Nat) : Int) := by
    rw [IntKind.wrap_u64, show (X : Int) * 2 ^ s = ((X * 2 ^ s : Nat) : Int) by simp]
    omega
  rw [h3, u64_or_nat _ _ (by omega) (by omega), or_add _ _ _ hy]

set_option maxHeartbeats 1000000 in
theorem get_ok {w : World} {base p : Nat} {v : Value} {l : List Int} {n0 : Nat} (h : Oct w base p 135 v l n0) (hl : ∀ x ∈ l, 0 ≤ x ∧ x ≤ 255) (hlen : l.length ≤ 1099511627776) (n : Nat) (hn : n ≤ 64) (hroom : n0 + n ≤ 8 * l.length) :
    Calls Tryz.prog 80 #[.pointer (some ⟨p, 0, none⟩), .int .i64 (n : Int)] w fun e w' => e = .returned (.tuple #[.int .u64 ((rd (num l) l.length n0 n : Nat) : Int), .int .i64 0]) ∧ Oct w' base p 135 v l (n0 + n) ∧ But (fun k => k = p) w w' := by
  have c1 := h.c1
  have c2 := h.c2
  have hs : Hid (∀ w, Calls Tryz.prog 82 #[.int .i64 (n : Int)] w fun e w' => e = .returned (.bool true) ∧ w' = w) := fun w => by
    have := isSize_any n w
    rwa [show decide (0 ≤ (n : Int) ∧ (n : Int) ≤ 64) = true by simp; omega] at this
  have LF := hide (left_any h (by omega) hlen)
  have hr : (n : Int) ≤ ((8 * l.length - n0 : Nat) : Int) := by omega
  have hr' : decide (((8 * l.length - n0 : Nat) : Int) < (n : Int)) = false := by simp; omega
  have hr2 : decide (8 * l.length - n0 < n) = false := by simp; omega
  have hz := hide (rd_zero (num l) l.length n0)
  replace h := hide h
  replace hl := hide hl
  go_enter Tryz.func80, Tryz.ntmps80
  go_wp2_with (first
    | (go_at_call 82; refine (hs.out _).mono ?_; rintro e w ⟨rfl, rfl⟩)
    | (go_at_call 83; refine LF.out.mono ?_; rintro e wq ⟨rfl, j, rfl⟩))
  go_loopw [6, 7] (fun X r wr => ∃ (k Y : Nat), r = .int .i64 (k : Int) ∧ k ≤ n ∧ X = .int .u64 (Y : Int) ∧ Hid (Y = rd (num l) l.length n0 (n - k)) ∧ Hid (Oct wr base p 135 v l (n0 + n - k)) ∧ Hid (But (fun k => k = p) w wr)) (fun _ r _ => (intOf r).toNat)
  case atStart =>
    refine ⟨n, 0, rfl, Nat.le_refl _, rfl, ?_, ?_, (But.refl _ _).drewN j⟩
    · rw [Nat.sub_self]; exact hz.out.symm
    · rw [show n0 + n - n = n0 by omega]; exact h.out.drewN j
  case round =>
    clear c1 c2 h hs LF hz
    obtain ⟨k, Y, rfl, hkn, rfl, hY, O, B⟩ := hrel
    by_cases hk : k = 0
    · subst hk
      go_wp2_with fail
      go_ret2
      refine ⟨?_, O.out, B.out⟩
      rw [show n - 0 = n by omega] at hY
      rw [← hY.out]
      rfl
    · obtain ⟨m, hm⟩ : ∃ m, n0 + n - k = m := ⟨_, rfl⟩
      rw [hm] at O
      have hk0 : (0 : Int) < (k : Int) := by omega
      obtain ⟨s, b, k', q, es, eb, ek, eq, hs1, hs8, hb8, h8⟩ := piece_valR (m := m) (show 0 < k by omega) (by omega)
      have P := hide (piece_any O.out (by omega) k (by omega))
      rw [es, eb] at P
      have hc0 := O.out.c0
      have hc1 := O.out.c1
      have hfz := O.out.fz 1
      have hq2 : q < l.length := by omega
      obtain ⟨g, c, hv⟩ : ∃ g c, v = .slice (some ⟨g, 0, none⟩) l.length c := by
        rcases O.out.own.2 with ⟨_, h1⟩ | ⟨g, cap, cur, h1, _⟩
        · omega
        · exact ⟨g, cap, h1⟩
      have hcq : wr.cell? ⟨g, q, none⟩ = some (.int .u8 (l.getD q 0)) := by
        have := O.out.own.cells (g := g) (by rw [hv]; rfl) q (.int .u8 (l.getD q 0)) (by simp [List.getD, List.getElem?_eq_getElem hq2])
        rwa [add_plain, Nat.zero_add] at this
      have hby := getD_byteR hl.out q hq2
      obtain ⟨y, hy⟩ : ∃ y, (l.getD q 0).toNat / 2 ^ b % 2 ^ s = y := ⟨_, rfl⟩
      have hy2 : y < 2 ^ s := by rw [← hy]; exact Nat.mod_lt _ (Nat.two_pow_pos s)
      have hrd : y = rd (num l) l.length m s := by rw [← hy, ← eq]; exact rd_byte l hl.out m s b (by omega) h8
      have L : Hid (∀ w, Calls Tryz.prog 100 #[.int .u8 (l.getD q 0 / 2 ^ b), .int .i64 (s : Int)] w fun e w' => e = .returned (.int .u8 (y : Int)) ∧ w' = w) := fun w => by
        rw [shr_int _ hby.1]
        have := low8_any ((l.getD q 0).toNat / 2 ^ b) s w (Nat.lt_of_le_of_lt (Nat.div_le_self _ _) (by omega)) hs8
        rwa [hy] at this
      have hYlt : Y < 2 ^ (n - k) := by rw [hY.out]; exact rd_lt _ _ _ _
      have ho := or_num hYlt hy2 (by omega)
      have hmore : Hid (Y * 2 ^ s + y = rd (num l) l.length n0 (n - k')) := by
        show Y * 2 ^ s + y = _
        rw [show n - k' = (n - k) + s by omega, rd_more _ _ _ _ _ (by omega), hrd, hY.out, show n0 + (n - k) = m by omega]
      have e1 : (k : Int) - (s : Int) = (k' : Int) := by omega
      have e2 : (m : Int) / 8 = (q : Int) := by omega
      have e3 : (m : Int) + (s : Int) = ((n0 + n - k' : Nat) : Int) := by omega
      have hmb : (m : Int) ≤ 8796093022208 := by omega
      have hq3 : (q : Int) < (l.length : Int) := by omega
      have hq5 : (0 : Int) ≤ (q : Int) := by omega
      have hq6 : IntKind.i64.wrap (q : Int) = (q : Int) := by unfold IntKind.wrap; simp [IntKind.bits, IntKind.signed]; omega
      have hmin : min b 8 = b := by omega
      have hkb : k' ≤ 64 := by omega
      have hkn' : k' < k := by omega
      have hk'n : k' ≤ n := by omega
      have hy3 : y < 256 := Nat.lt_of_lt_of_le hy2 (by have := Nat.pow_le_pow_right (n := 2) (by decide) hs8; omega)
      have FIN : Hid (∀ wx : World, Oct wx base p 135 v l m → But (fun k => k = p) w wx → Hid (Oct (wx.setCell ⟨p, 1, none⟩ (.int .i64 ((n0 + n - k' : Nat) : Int))) base p 135 v l (n0 + n - k')) ∧ Hid (But (fun k => k = p) w (wx.setCell ⟨p, 1, none⟩ (.int .i64 ((n0 + n - k' : Nat) : Int))))) := fun wx h1 h2 =>
        ⟨h1.setAt _, h2.setCell (p := ⟨p, 1, none⟩) (fun _ => rfl) _⟩
      generalize Y * 2 ^ s + y = Z at ho hmore
      clear hy es eb h8 eq hrd ek hm
      generalize l.getD q 0 = c0 at hcq hby L
      rw [hv] at hc0
      have hb1 := hby.1
      have hb2 := hby.2
      clear hby
      go_wp2_with (go_at_call 84; refine P.out.mono ?_; rintro e wq ⟨rfl, rfl⟩)
      go_quiet ((go_at_call 100; exact Calls.quiet_of_same (L.out _)))
      go_wp2_with fail
      go_roundw
      case rel => exact ⟨k', Z, rfl, hk'n, rfl, hmore, (FIN.out _ (O.out.drewN _) (B.out.drewN _)).1, (FIN.out _ (O.out.drewN _) (B.out.drewN _)).2⟩
      case measure => simp [intOf]; omega

set_option maxHeartbeats 1000000 in
theorem get_bits {w : World} {base p : Nat} {v : Value} {l : List Int} {n0 : Nat} (h : Oct w base p 135 v l n0) (hlen : l.length ≤ 1099511627776) (n : Nat) (hn : n ≤ 64) (h0 : n0 ≤ 8 * l.length) (hroom : 8 * l.length < n0 + n) :
    Calls Tryz.prog 80 #[.pointer (some ⟨p, 0, none⟩), .int .i64 (n : Int)] w fun e w' => e = .returned (.tuple #[.int .u64 0, .int .i64 50]) ∧ ∃ k, w' = w.drewN k := by
  have c1 := h.c1
  have c2 := h.c2
  have hs : Hid (∀ w, Calls Tryz.prog 82 #[.int .i64 (n : Int)] w fun e w' => e = .returned (.bool true) ∧ w' = w) := fun w => by
    have := isSize_any n w
    rwa [show decide (0 ≤ (n : Int) ∧ (n : Int) ≤ 64) = true by simp; omega] at this
  have LF := hide (left_any h h0 hlen)
  have hr : ((8 * l.length - n0 : Nat) : Int) < (n : Int) := by omega
  clear h
  go_enter Tryz.func80, Tryz.ntmps80
  go_wp2_with (first
    | (go_at_call 82; refine (hs.out _).mono ?_; rintro e w ⟨rfl, rfl⟩)
    | (go_at_call 83; refine LF.out.mono ?_; rintro e wq ⟨rfl, j, rfl⟩))
  go_ret2
  exact ⟨rfl, j, rfl⟩

set_option maxHeartbeats 1000000 in
theorem get_arg {w : World} {base p : Nat} {v : Value} {l : List Int} {n0 : Nat} (h : Oct w base p 135 v l n0) (n : Int) (hn : ¬ (0 ≤ n ∧ n ≤ 64)) :
    Calls Tryz.prog 80 #[.pointer (some ⟨p, 0, none⟩), .int .i64 n] w fun e w' => e = .returned (.tuple #[.int .u64 0, .int .i64 2]) ∧ w' = w := by
  have c2 := h.c2
  have hs : Hid (∀ w, Calls Tryz.prog 82 #[.int .i64 n] w fun e w' => e = .returned (.bool false) ∧ w' = w) := fun w => by
    have := isSize_any n w
    rwa [show decide (0 ≤ n ∧ n ≤ 64) = false by simpa using hn] at this
  clear h hn
  go_enter Tryz.func80, Tryz.ntmps80
  go_wp2_with (go_at_call 82; refine (hs.out _).mono ?_; rintro e w ⟨rfl, rfl⟩)
  go_ret2
  exact ⟨rfl, rfl⟩

set_option maxHeartbeats 1000000 in
theorem put_arg {w : World} {base p : Nat} {v : Value} {l : List Int} {n0 : Nat} (h : Oct w base p 100 v l n0) (x n : Int) (hn : ¬ (0 ≤ n ∧ n ≤ 64)) :
    Calls Tryz.prog 63 #[.pointer (some ⟨p, 0, none⟩), .int .u64 x, .int .i64 n] w fun e w' => e = .returned (.int .i64 2) ∧ w' = w := by
  have c2 := h.c2
  have hs : Hid (∀ w, Calls Tryz.prog 82 #[.int .i64 n] w fun e w' => e = .returned (.bool false) ∧ w' = w) := fun w => by
    have := isSize_any n w
    rwa [show decide (0 ≤ n ∧ n ≤ 64) = false by simpa using hn] at this
  clear h hn
  go_enter Tryz.func63, Tryz.ntmps63
  go_wp2_with (go_at_call 82; refine (hs.out _).mono ?_; rintro e w ⟨rfl, rfl⟩)
  go_ret
  exact ⟨rfl, rfl⟩

theorem among_val (x : Int) (n : Nat) (h1 : 1 ≤ n) : 0 ≤ (IntKind.u64.wrap x).tmod (n : Int) ∧ (IntKind.u64.wrap x).tmod (n : Int) < (n : Int) := by
  rw [IntKind.wrap_u64]
  have h : 0 ≤ x % 18446744073709551616 := Int.emod_nonneg _ (by decide)
  rw [Int.tmod_eq_emod_of_nonneg h]
  exact ⟨Int.emod_nonneg _ (by omega), Int.emod_lt_of_pos _ (by omega)⟩
theorem among_wrap (y : Int) {n : Nat} (v : 0 ≤ y ∧ y < (n : Int)) (h2 : n ≤ 9223372036854775807) : wrap64 y = ((y.toNat : Nat) : Int) := by
  unfold wrap64
  omega
/-- A number as one from 0 to n - 1. -/
def amg (x : Int) (n : Nat) : Nat := ((IntKind.u64.wrap x).tmod (n : Int)).toNat
theorem amg_lt (x : Int) (n : Nat) (h1 : 1 ≤ n) : amg x n < n := by have := among_val x n h1; unfold amg; omega

theorem same_yes (w : World) (a a' : Option Addr) (len len' cap cap' : Nat) (l l' : List Int) (h : Has w a len cap l) (h' : Has w a' len' cap' l') (e : l = l') :
    Calls Tryz.prog 8 #[.slice a len cap, .slice a' len' cap'] w fun e w' => e = .returned (.bool true) ∧ w' = w := by
  have := same_any w a a' len len' cap cap' l l' h h'
  rwa [show decide (l = l') = true by simpa using e] at this

theorem Oct.bel {w w' : World} {base p n : Nat} {t : TypeId} {v : Value} {l : List Int} (h : Oct w base p t v l n) (hb : But (fp p v) w w') : Below base w w' :=
  hb.below (by have := h.lt; have := h.ge; omega) (fun k hk => by
    rcases hk with rfl | hk
    · exact h.ge
    · exact (h.own.lt k hk).1)
theorem Oct.belR {w w' : World} {base p n : Nat} {t : TypeId} {v : Value} {l : List Int} (h : Oct w base p t v l n) (hb : But (fun k => k = p) w w') : Below base w w' :=
  hb.below (by have := h.lt; have := h.ge; omega) (fun k hk => by rw [hk]; exact h.ge)

/-- A writer that has the number A of n bits. -/
def Wri (w : World) (base p A n : Nat) : Prop := ∃ v l, Oct w base p 100 v l n ∧ Holds l A n

theorem newWri (w : World) (base : Nat) (hb : base ≤ w.heap.size) : Calls Tryz.prog 26 #[] w fun e w' => ∃ p, e = .returned (.pointer (some ⟨p, 0, none⟩)) ∧ Below w.heap.size w w' ∧ w.heap.size ≤ p ∧ Wri w' base p 0 0 := by
  refine (newWriter_any w).mono ?_
  rintro e w' ⟨p, he, B, O⟩
  exact ⟨p, he, B, O.ge, _, _, O.mono hb, holds_nil⟩
theorem putWri {w : World} {base p A n0 : Nat} (h : Wri w base p A n0) (x n : Nat) (hx : x < 18446744073709551616) (hn : n ≤ 64) (hroom : n0 + n ≤ 524288) :
    Calls Tryz.prog 63 #[.pointer (some ⟨p, 0, none⟩), .int .u64 (x : Int), .int .i64 (n : Int)] w fun e w' => e = .returned (.int .i64 0) ∧ Wri w' base p (A * 2 ^ n + x % 2 ^ n) (n0 + n) ∧ Below base w w' := by
  obtain ⟨v, l, O, H⟩ := h
  refine (put_ok O H x n hx hn hroom).mono ?_
  rintro e w' ⟨he, v', l', O', H', B', S'⟩
  exact ⟨he, ⟨v', l', O', H'⟩, O.bel B'⟩
theorem bytesWri {w : World} {base p A n : Nat} (h : Wri w base p A n) (hn : n ≤ 524288) (l : List Int) (hl : Holds l A n) : Calls Tryz.prog 31 #[.pointer (some ⟨p, 0, none⟩)] w (Ret w l) := by
  obtain ⟨v, m, O, H⟩ := h
  obtain rfl := H.same hl
  exact wbytes_any O H.bytes (by have := H.hi; omega)
theorem lenWri {w : World} {base p A n : Nat} (h : Wri w base p A n) : Calls Tryz.prog 101 #[.pointer (some ⟨p, 0, none⟩)] w fun e w' => e = .returned (.int .i64 (n : Int)) ∧ w' = w := by
  obtain ⟨v, m, O, H⟩ := h
  exact wlen_any O
theorem Wri.below {w w' : World} {base p A n B : Nat} (h : Wri w base p A n) (hb : Below B w w') (hB : w.heap.size ≤ B) : Wri w' base p A n := by
  obtain ⟨v, m, O, H⟩ := h
  exact ⟨v, m, O.below hb hB, H⟩
theorem Wri.lt {w : World} {base p A n : Nat} (h : Wri w base p A n) : base ≤ p ∧ p < w.heap.size := by
  obtain ⟨v, m, O, H⟩ := h
  exact ⟨O.ge, O.lt⟩
theorem Wri.mono {w : World} {base p A n b : Nat} (h : Wri w base p A n) (hb : b ≤ base) : Wri w b p A n := by
  obtain ⟨v, m, O, H⟩ := h
  exact ⟨v, m, O.mono hb, H⟩

theorem vu {a b : Int} (h : a = b) : Value.int .u64 a = .int .u64 b := by rw [h]

open Go.ChangeShapes Go.WideShapes Go.ChangeAt Go.RowKit
theorem own : ownKnob Tryz.prog.godebug = none := by kernel_rfl
theorem laidOut : laidOutB Tryz.prog = true := by kernel_rfl
theorem wf_u64 {a : Int} (h : (Lit.int .u64 a).wf = true) : 0 ≤ a ∧ a < 18446744073709551616 := by
  simp [Lit.wf, IntKind.min, IntKind.max, IntKind.signed, IntKind.bits] at h; omega
theorem wf_i64 {a : Int} (h : (Lit.int .i64 a).wf = true) : -9223372036854775808 ≤ a ∧ a ≤ 9223372036854775807 := by
  simp [Lit.wf, IntKind.min, IntKind.max, IntKind.signed, IntKind.bits] at h; omega
theorem wf_u8 {a : Int} (h : (Lit.int .u8 a).wf = true) : 0 ≤ a ∧ a ≤ 255 := by
  simp [Lit.wf, IntKind.min, IntKind.max, IntKind.signed, IntKind.bits] at h; omega

/-- A slice of numbers in memory. -/
structure HasU (w : World) (a : Option Addr) (len cap : Nat) (l : List Int) : Prop where
  hlen : l.length = len
  le : len ≤ cap
  capb : cap ≤ maxLen
  cells : 0 < len → ∃ b off, a = some ⟨b, off, none⟩ ∧ b < w.heap.size ∧ ∀ i, i < len → w.cell? ⟨b, off + i, none⟩ = some (.int .u64 (l.getD i 0))
  range : ∀ x ∈ l, 0 ≤ x ∧ x < 18446744073709551616
theorem HasU.kept {w w' : World} {a : Option Addr} {len cap : Nat} {l : List Int} {B : Nat} (h : HasU w a len cap l) (hb : Below B w w') (hB : w.heap.size ≤ B) : HasU w' a len cap l := by
  refine ⟨h.hlen, h.le, h.capb, fun hp => ?_, h.range⟩
  obtain ⟨b, off, e1, e2, e3⟩ := h.cells hp
  exact ⟨b, off, e1, Nat.lt_of_lt_of_le e2 hb.size, fun i hi => (hb.cell (p := ⟨b, off + i, none⟩) (Nat.lt_of_lt_of_le e2 hB)).trans (e3 i hi)⟩
theorem came_bytes {H : Type} {enc : TypeId × Value → H} {W : World} {base : Nat} {a : Option Addr} {len cap : Nat} {d : DataW H} {p : List MemPlace} (h : DataW.Trod enc Tryz.prog W base (fun _ => true) true 24 (.slice a len cap) d p) : ∃ l, Has W a len cap l := by
  obtain ⟨fuel, hf⟩ := h
  rcases open_ints Tryz.underlying24 Tryz.underlying5 (by kernel_rfl) hf with ⟨hcs, _⟩ | ⟨x, l, c, zs, hcs, _, hl, hm, hz, _, hcell, hwz⟩
  · simp [Value.cells] at hcs
    obtain ⟨rfl, rfl, rfl⟩ := hcs
    exact ⟨_, has_nil W⟩
  · simp [Value.cells] at hcs
    obtain ⟨rfl, rfl, rfl⟩ := hcs
    simp at hz
    refine ⟨zs.take len, by simp; omega, hl, hm, (fun h => by cases h), fun hp => ?_, fun n hn => wf_u8 (hwz n (List.mem_of_mem_take hn))⟩
    obtain ⟨b, off, spot⟩ := x
    have hc := hcell 0 (by omega)
    have hspot : spot = none := by simpa [Addr.add] using World.cell?_spot hc
    subst hspot
    refine ⟨b, off, rfl, ?_, fun i hi => ?_⟩
    · have := World.block_lt_of_cell? W _ hc
      rwa [add_plain] at this
    · have := hcell i (by omega)
      rw [add_plain] at this
      rw [this]
      simp [List.getD, hi]
/-- A writer, whose bytes lie in v, that has the number A of n bits. -/
def Wr (w : World) (base p : Nat) (v : Value) (A n : Nat) : Prop := ∃ l, Oct w base p 100 v l n ∧ Holds l A n
/-- A reader of the bytes l at the place n. -/
def Rd (w : World) (base p : Nat) (v : Value) (l : List Int) (n : Nat) : Prop := Oct w base p 135 v l n ∧ (∀ x ∈ l, 0 ≤ x ∧ x ≤ 255) ∧ l.length ≤ 1099511627776 ∧ n ≤ 8 * l.length
/-- Nothing of the one is of the other. -/
def Dis (p : Nat) (v : Value) (p' : Nat) (v' : Value) : Prop := ∀ k, fp p v k → ¬ fp p' v' k
theorem Dis.symm {p p' : Nat} {v v' : Value} (h : Dis p v p' v') : Dis p' v' p v := fun k h1 h2 => h k h2 h1

theorem Oct.fplt {w : World} {base p n : Nat} {t : TypeId} {v : Value} {l : List Int} (h : Oct w base p t v l n) : ∀ k, fp p v k → base ≤ k ∧ k < w.heap.size := fun k hk => by
  rcases hk with rfl | hk
  · exact ⟨h.ge, h.lt⟩
  · exact h.own.lt k hk

theorem Wr.below {w w' : World} {base p A n B : Nat} {v : Value} (h : Wr w base p v A n) (hb : Below B w w') (hB : w.heap.size ≤ B) : Wr w' base p v A n := by
  obtain ⟨m, O, H⟩ := h
  exact ⟨m, O.below hb hB, H⟩
theorem Rd.below {w w' : World} {base p n B : Nat} {v : Value} {l : List Int} (h : Rd w base p v l n) (hb : Below B w w') (hB : w.heap.size ≤ B) : Rd w' base p v l n := ⟨h.1.below hb hB, h.2⟩
theorem Wr.drewN {w : World} {base p A n : Nat} {v : Value} (h : Wr w base p v A n) (k : Nat) : Wr (w.drewN k) base p v A n := by
  obtain ⟨m, O, H⟩ := h
  exact ⟨m, O.drewN k, H⟩
theorem Rd.drewN {w : World} {base p n : Nat} {v : Value} {l : List Int} (h : Rd w base p v l n) (k : Nat) : Rd (w.drewN k) base p v l n := ⟨h.1.drewN k, h.2⟩
theorem Wr.lt {w : World} {base p A n : Nat} {v : Value} (h : Wr w base p v A n) : base ≤ p ∧ p < w.heap.size := by
  obtain ⟨m, O, H⟩ := h
  exact ⟨O.ge, O.lt⟩

theorem newWr (w : World) (base : Nat) (hb : base ≤ w.heap.size) : Calls Tryz.prog 26 #[] w fun e w' => ∃ p, e = .returned (.pointer (some ⟨p, 0, none⟩)) ∧ Below w.heap.size w w' ∧ Wr w' base p (.slice none 0 0) 0 0 ∧ ∀ k, fp p (.slice none 0 0) k → w.heap.size ≤ k := by
  refine (newWriter_any w).mono ?_
  rintro e w' ⟨p, he, B, O⟩
  exact ⟨p, he, B, ⟨_, O.mono hb, holds_nil⟩, fun k hk => (O.fplt k hk).1⟩
theorem newRd (w : World) (base : Nat) (hb : base ≤ w.heap.size) (a : Option Addr) (len cap : Nat) (l : List Int) (h : Has w a len cap l) (hl : len ≤ 1099511627776) :
    Calls Tryz.prog 57 #[.slice a len cap] w fun e w' => ∃ p v, e = .returned (.pointer (some ⟨p, 0, none⟩)) ∧ Below w.heap.size w w' ∧ Rd w' base p v l 0 ∧ ∀ k, fp p v k → w.heap.size ≤ k := by
  refine (newReader_any w a len cap l h hl).mono ?_
  rintro e w' ⟨p, v, he, B, O⟩
  exact ⟨p, v, he, B, ⟨O.mono hb, h.bytes, by have := h.hlen; omega, by omega⟩, fun k hk => (O.fplt k hk).1⟩
/-- What is new is apart from what was there. -/
theorem dis_new {w : World} {base p p' n : Nat} {t : TypeId} {v v' : Value} {l : List Int} (h : Oct w base p t v l n) (hn : ∀ k, fp p' v' k → w.heap.size ≤ k) : Dis p v p' v' := fun k h1 h2 => by
  have := (h.fplt k h1).2
  have := hn k h2
  omega
theorem Wr.dis {w : World} {base p p' A n : Nat} {v v' : Value} (h : Wr w base p v A n) (hn : ∀ k, fp p' v' k → w.heap.size ≤ k) : Dis p v p' v' := by
  obtain ⟨m, O, H⟩ := h
  exact dis_new O hn
theorem Rd.dis {w : World} {base p p' n : Nat} {v v' : Value} {l : List Int} (h : Rd w base p v l n) (hn : ∀ k, fp p' v' k → w.heap.size ≤ k) : Dis p v p' v' := dis_new h.1 hn

/-- What a call did to one of them alone. -/
structure Did (w w' : World) (base p : Nat) (v v' : Value) : Prop where
  bel : Below base w w'
  but : But (fp p v) w w'
  own : ∀ i, i < w.heap.size → v'.ownBlock = some i → v.ownBlock = some i
theorem Did.oct {w w' : World} {base p p' n : Nat} {t : TypeId} {v v1 v' : Value} {l : List Int} {base' : Nat} (h : Did w w' base p v v1) (d : Dis p v p' v') (o : Oct w base' p' t v' l n) : Oct w' base' p' t v' l n ∧ Dis p v1 p' v' :=
  ⟨o.kept h.but d, fun k h1 h2 => by
    rcases h1 with rfl | h1
    · exact d k (.inl rfl) h2
    · exact d k (.inr (h.own k (o.fplt k h2).2 h1)) h2⟩
theorem Did.wr {w w' : World} {base base' p p' A n : Nat} {v v1 v' : Value} (h : Did w w' base p v v1) (d : Dis p v p' v') (o : Wr w base' p' v' A n) : Wr w' base' p' v' A n ∧ Dis p v1 p' v' := by
  obtain ⟨m, O, H⟩ := o
  have := h.oct d O
  exact ⟨⟨m, this.1, H⟩, this.2⟩
theorem Did.rd {w w' : World} {base base' p p' n : Nat} {v v1 v' : Value} {l : List Int} (h : Did w w' base p v v1) (d : Dis p v p' v') (o : Rd w base' p' v' l n) : Rd w' base' p' v' l n ∧ Dis p v1 p' v' := by
  have := h.oct d o.1
  exact ⟨⟨this.1, o.2⟩, this.2⟩

theorem putWr {w : World} {base p A n0 : Nat} {v : Value} (h : Wr w base p v A n0) (x n : Nat) (hx : x < 18446744073709551616) (hn : n ≤ 64) (hroom : n0 + n ≤ 524288) :
    Calls Tryz.prog 63 #[.pointer (some ⟨p, 0, none⟩), .int .u64 (x : Int), .int .i64 (n : Int)] w fun e w' => e = .returned (.int .i64 0) ∧ ∃ v', Wr w' base p v' (A * 2 ^ n + x % 2 ^ n) (n0 + n) ∧ Did w w' base p v v' := by
  obtain ⟨l, O, H⟩ := h
  refine (put_ok O H x n hx hn hroom).mono ?_
  rintro e w' ⟨he, v', l', O', H', B', S'⟩
  exact ⟨he, v', ⟨l', O', H'⟩, O.bel B', B', S'⟩
theorem getRd {w : World} {base p n0 : Nat} {v : Value} {l : List Int} (h : Rd w base p v l n0) (n : Nat) (hn : n ≤ 64) (hroom : n0 + n ≤ 8 * l.length) :
    Calls Tryz.prog 80 #[.pointer (some ⟨p, 0, none⟩), .int .i64 (n : Int)] w fun e w' => e = .returned (.tuple #[.int .u64 ((rd (num l) l.length n0 n : Nat) : Int), .int .i64 0]) ∧ Rd w' base p v l (n0 + n) ∧ Did w w' base p v v := by
  refine (get_ok h.1 h.2.1 h.2.2.1 n hn hroom).mono ?_
  rintro e w' ⟨he, O', B'⟩
  exact ⟨he, ⟨O', h.2.1, h.2.2.1, hroom⟩, h.1.belR B', B'.mono (fun k hk => .inl hk), fun i _ h => h⟩
theorem bytesWr {w : World} {base p A n : Nat} {v : Value} (h : Wr w base p v A n) (hn : n ≤ 524288) (l : List Int) (hl : Holds l A n) : Calls Tryz.prog 31 #[.pointer (some ⟨p, 0, none⟩)] w (Ret w l) := by
  obtain ⟨m, O, H⟩ := h
  obtain rfl := H.same hl
  exact wbytes_any O H.bytes (by have := H.hi; omega)
theorem Wr.holds {w : World} {base p A n : Nat} {v : Value} (h : Wr w base p v A n) : ∃ l, Holds l A n := by
  obtain ⟨m, O, H⟩ := h
  exact ⟨m, H⟩
theorem lenWr {w : World} {base p A n : Nat} {v : Value} (h : Wr w base p v A n) : Calls Tryz.prog 101 #[.pointer (some ⟨p, 0, none⟩)] w fun e w' => e = .returned (.int .i64 (n : Int)) ∧ w' = w := by
  obtain ⟨m, O, H⟩ := h
  exact wlen_any O
/-- How many bits the first k numbers have. -/
def posP (f : Nat → Nat) : Nat → Nat
  | 0 => 0
  | k + 1 => posP f k + f k
/-- The number that they are together. -/
def numP (f X : Nat → Nat) : Nat → Nat
  | 0 => 0
  | k + 1 => numP f X k * 2 ^ f k + X k % 2 ^ f k
theorem posP_le {f : Nat → Nat} (hf : ∀ k, f k ≤ 64) (k : Nat) : posP f k ≤ 64 * k := by
  induction k with
  | zero => simp [posP]
  | succ k ih => have := hf k; simp only [posP]; omega
theorem posP_mono (f : Nat → Nat) {i j : Nat} (h : i ≤ j) : posP f i ≤ posP f j := by
  induction j with
  | zero => obtain rfl : i = 0 := by omega
            exact Nat.le_refl _
  | succ j ih =>
    rcases Nat.lt_or_ge i (j + 1) with h1 | h1
    · have := ih (by omega); simp only [posP]; omega
    · obtain rfl : i = j + 1 := by omega
      exact Nat.le_refl _
theorem numP_front (f X : Nat → Nat) {i j : Nat} (h : i ≤ j) : numP f X j / 2 ^ (posP f j - posP f i) = numP f X i := by
  induction j with
  | zero => obtain rfl : i = 0 := by omega
            simp
  | succ j ih =>
    rcases Nat.lt_or_ge i (j + 1) with h1 | h1
    · have h2 := posP_mono f (show i ≤ j by omega)
      have h3 : X j % 2 ^ f j < 2 ^ f j := Nat.mod_lt _ (Nat.two_pow_pos _)
      simp only [posP, numP]
      rw [show posP f j + f j - posP f i = f j + (posP f j - posP f i) by omega, Nat.pow_add, ← Nat.div_div_eq_div_mul, Nat.mul_comm, Nat.mul_add_div (Nat.two_pow_pos _), Nat.div_eq_of_lt h3, Nat.add_zero]
      exact ih (by omega)
    · obtain rfl : i = j + 1 := by omega
      simp
/-- What is read of them. -/
theorem numP_read (f X : Nat → Nat) {k n N : Nat} (h : k < n) (hN : posP f n ≤ 8 * N) : rd (numP f X n * 2 ^ (8 * N - posP f n)) N (posP f k) (f k) = X k % 2 ^ f k := by
  have h1 := posP_mono f (show k + 1 ≤ n by omega)
  have h2 : posP f (k + 1) = posP f k + f k := rfl
  rw [rd_of_holds hN (by omega), show posP f n - posP f k - f k = posP f n - posP f (k + 1) by omega, numP_front f X (show k + 1 ≤ n by omega)]
  show (numP f X k * 2 ^ f k + X k % 2 ^ f k) % 2 ^ f k = _
  rw [Nat.mul_comm, Nat.mul_add_mod, Nat.mod_mod]

theorem v64 {a b : Int} (h : a = b) : Value.int .i64 a = .int .i64 b := by rw [h]

/-- What was read, put again, is what was read so far. -/
theorem rd_front (V N P n : Nat) (h : P + n ≤ 8 * N) : rd V N 0 P * 2 ^ n + rd V N P n % 2 ^ n = rd V N 0 (P + n) := by
  rw [Nat.mod_eq_of_lt (rd_lt _ _ _ _), rd_more V N 0 P n (by omega), Nat.zero_add]
theorem rd_lt64 (V N P n : Nat) (h : n ≤ 64) : rd V N P n < 18446744073709551616 := Nat.lt_of_lt_of_le (rd_lt V N P n) (Nat.pow_le_pow_right (n := 2) (by decide) h)
theorem holds_self (l : List Int) (hl : ∀ x ∈ l, 0 ≤ x ∧ x ≤ 255) : Holds l (rd (num l) l.length 0 (8 * l.length)) (8 * l.length) := by
  have h1 := num_lt l hl
  rw [pow256] at h1
  refine ⟨hl, Nat.le_refl _, by omega, ?_, rd_lt _ _ _ _⟩
  rw [Nat.sub_self, Nat.pow_zero, Nat.mul_one]
  unfold rd
  rw [show 8 * l.length - 0 - 8 * l.length = 0 by omega, Nat.pow_zero, Nat.div_one, Nat.mod_eq_of_lt h1]
theorem getRdBits {w : World} {base p n0 : Nat} {v : Value} {l : List Int} (h : Rd w base p v l n0) (n : Nat) (hn : n ≤ 64) (hroom : 8 * l.length < n0 + n) :
    Calls Tryz.prog 80 #[.pointer (some ⟨p, 0, none⟩), .int .i64 (n : Int)] w fun e w' => e = .returned (.tuple #[.int .u64 0, .int .i64 50]) ∧ ∃ k, w' = w.drewN k := get_bits h.1 h.2.2.1 n hn h.2.2.2 hroom

end Go.Proofs.YtmjjedbdedemcaaGreatDoor
