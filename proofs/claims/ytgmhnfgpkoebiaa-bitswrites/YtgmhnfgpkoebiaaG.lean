/-
  works; the statement's low; what a writer, and a reader, that no call made does.
-/
import Derived.Test.YtgmhnfgpkoebiaaE
import Derived.Test.YtgmhnfgpkoebiaaF
namespace Go.Proofs.Ytgmhnfgpkoebiaa
open Go.RowKit
set_option linter.unusedVariables false

theorem same_yes (w : World) (a a' : Option Addr) (len len' cap cap' : Nat) (l l' : List Int) (h : Has w a len cap l) (h' : Has w a' len' cap' l') (e : l = l') :
    Calls Try.prog 13 #[.slice a len cap, .slice a' len' cap'] w fun e w' => e = .returned (.bool true) ∧ w' = w := by
  have := same_any w a a' len len' cap cap' l l' h h'
  rwa [show decide (l = l') = true by simpa using e] at this

theorem Oct.bel {w w' : World} {base p n : Nat} {t : TypeId} {v : Value} {l : List Int} (h : Oct w base p t v l n) (hb : But (fp p v) w w') : Below base w w' :=
  hb.below (by have := h.lt; have := h.ge; omega) (fun k hk => by
    rcases hk with rfl | hk
    · exact h.ge
    · exact (h.own.lt k hk).1)
theorem Oct.belR {w w' : World} {base p n : Nat} {t : TypeId} {v : Value} {l : List Int} (h : Oct w base p t v l n) (hb : But (fun k => k = p) w w') : Below base w w' :=
  hb.below (by have := h.lt; have := h.ge; omega) (fun k hk => by rw [hk]; exact h.ge)

/-- A writer that has the number A of n bits. -/
def Wri (w : World) (base p A n : Nat) : Prop := ∃ v l, Oct w base p 57 v l n ∧ Holds l A n

theorem newWri (w : World) (base : Nat) (hb : base ≤ w.heap.size) : Calls Try.prog 9 #[] w fun e w' => ∃ p, e = .returned (.pointer (some ⟨p, 0, none⟩)) ∧ Below w.heap.size w w' ∧ w.heap.size ≤ p ∧ Wri w' base p 0 0 := by
  refine (newWriter_any w).mono ?_
  rintro e w' ⟨p, he, B, O⟩
  exact ⟨p, he, B, O.ge, _, _, O.mono hb, holds_nil⟩
theorem putWri {w : World} {base p A n0 : Nat} (h : Wri w base p A n0) (x n : Nat) (hx : x < 18446744073709551616) (hn : n ≤ 64) (hroom : n0 + n ≤ 524288) :
    Calls Try.prog 10 #[.pointer (some ⟨p, 0, none⟩), .int .u64 (x : Int), .int .i64 (n : Int)] w fun e w' => e = .returned (.int .i64 0) ∧ Wri w' base p (A * 2 ^ n + x % 2 ^ n) (n0 + n) ∧ Below base w w' := by
  obtain ⟨v, l, O, H⟩ := h
  refine (put_ok O H x n hx hn hroom).mono ?_
  rintro e w' ⟨he, v', l', O', H', B', S'⟩
  exact ⟨he, ⟨v', l', O', H'⟩, O.bel B'⟩
theorem bytesWri {w : World} {base p A n : Nat} (h : Wri w base p A n) (hn : n ≤ 524288) (l : List Int) (hl : Holds l A n) : Calls Try.prog 14 #[.pointer (some ⟨p, 0, none⟩)] w (Ret w l) := by
  obtain ⟨v, m, O, H⟩ := h
  obtain rfl := H.same hl
  exact wbytes_any O H.bytes (by have := H.hi; omega)
theorem lenWri {w : World} {base p A n : Nat} (h : Wri w base p A n) : Calls Try.prog 12 #[.pointer (some ⟨p, 0, none⟩)] w fun e w' => e = .returned (.int .i64 (n : Int)) ∧ w' = w := by
  obtain ⟨v, m, O, H⟩ := h
  exact wlen_any O
theorem Wri.below {w w' : World} {base p A n B : Nat} (h : Wri w base p A n) (hb : Below B w w') (hB : w.heap.size ≤ B) : Wri w' base p A n := by
  obtain ⟨v, m, O, H⟩ := h
  exact ⟨v, m, O.below hb hB, H⟩
theorem Wri.lt {w : World} {base p A n : Nat} (h : Wri w base p A n) : base ≤ p ∧ p < w.heap.size := by
  obtain ⟨v, m, O, H⟩ := h
  exact ⟨O.ge, O.lt⟩
theorem Wri.mono {w : World} {base p A n b : Nat} (h : Wri w base p A n) (hb : b ≤ base) : Wri w b p A n := by
  obtain ⟨v, m, O, H⟩ := h
  exact ⟨v, m, O.mono hb, H⟩

theorem holds176 : Holds [176] 11 4 := ⟨by decide, by decide, by decide, by decide, by decide⟩

set_option maxHeartbeats 1000000 in
theorem works_any (w : World) : Calls Try.prog 16 #[] w fun e w' => e = .returned (.bool true) ∧ Below w.heap.size w w' := by
  go_enter Try.func16, Try.ntmps16
  go_wp2_with fail
  refine (newWri w _ (Nat.le_refl _)).mono ?_
  rintro e w1 ⟨p, rfl, B1, hp, W1⟩
  replace W1 := hide W1
  go_wp2_with fail
  refine (putWri W1.out 5 3 (by decide) (by decide) (by decide)).mono ?_
  rintro e w2 ⟨rfl, W2, B2⟩
  replace W2 := hide W2
  have b2 := B1.trans B2
  go_wp2_with fail
  refine (putWri W2.out 1 1 (by decide) (by decide) (by decide)).mono ?_
  rintro e w3 ⟨rfl, W3, B3⟩
  have W3 : Hid (Wri w3 w.heap.size p 11 4) := W3
  have b3 := b2.trans B3
  go_wp2_with fail
  refine (bytesWri W3.out (by decide) _ holds176).mono ?_
  rintro e w4 ⟨a4, n4, c4, rfl, H4, B4, -⟩
  have b4 := b3.trans (B4.mono b3.size)
  have W4 := hide (W3.out.below B4 (Nat.le_refl _))
  have h176 : Has (w4.alloc (.cells #[.int .u8 176] 5)) (some ⟨w4.heap.size, 0, none⟩) 1 1 [176] := has_lit w4 [176] (by decide) (by unfold maxLen; decide)
  have bA : Below w4.heap.size w4 (w4.alloc (.cells #[.int .u8 176] 5)) := (Below.refl _ _).alloc (Nat.le_refl _) _
  go_wp2_with (first
    | (go_at_call 13; refine (same_yes _ _ _ _ _ _ _ _ _ (H4.kept bA (Nat.le_refl _)) h176 rfl).mono ?_; rintro e w5 ⟨rfl, rfl⟩)
    | (go_at_call 12; refine (lenWri (W4.out.below bA (Nat.le_refl _))).mono ?_; rintro e w5 ⟨rfl, rfl⟩))
  go_ret
  exact ⟨rfl, b4.trans (bA.mono b4.size)⟩

theorem low_yes {x k : Nat} (h : 2 ^ k ≤ x % 2 ^ (k + 1)) : x % 2 ^ (k + 1) - 2 ^ k = x % 2 ^ k := by
  have h1 := Nat.mod_lt x (Nat.two_pow_pos (k + 1))
  have h2 : x % 2 ^ (k + 1) % 2 ^ k = x % 2 ^ k := Nat.mod_mod_of_dvd _ (Nat.pow_dvd_pow 2 (by omega))
  rw [Nat.pow_succ] at h1 h h2 ⊢
  rw [← h2]
  have h3 := Nat.two_pow_pos k
  generalize x % (2 ^ k * 2) = y at *
  rw [Nat.mod_eq_sub_mod h, Nat.mod_eq_of_lt (by omega)]
theorem low_no {x k : Nat} (h : ¬ 2 ^ k ≤ x % 2 ^ (k + 1)) : x % 2 ^ (k + 1) = x % 2 ^ k := by
  have h2 : x % 2 ^ (k + 1) % 2 ^ k = x % 2 ^ k := Nat.mod_mod_of_dvd _ (Nat.pow_dvd_pow 2 (by omega))
  have h3 : x % 2 ^ (k + 1) < 2 ^ k := by omega
  rw [← h2, Nat.mod_eq_of_lt h3]

theorem vu {a b : Int} (h : a = b) : Value.int .u64 a = .int .u64 b := by rw [h]

set_option maxHeartbeats 1000000 in
theorem low_any (x n : Nat) (hx : x < 18446744073709551616) (hn : n ≤ 64) (w : World) : Calls Try.prog 24 #[.int .u64 (x : Int), .int .i64 (n : Int)] w fun e w' => e = .returned (.int .u64 ((x % 2 ^ n : Nat) : Int)) ∧ w' = w := by
  have hx' : Hid (x % 2 ^ 64 = x) := Nat.mod_eq_of_lt hx
  go_enter Try.func24, Try.ntmps24
  go_wp2
  go_loop [0, 5] (fun r i => ∃ k y : Nat, n ≤ k ∧ k ≤ 64 ∧ i = .int .i64 ((k : Int) - 1) ∧ r = .int .u64 (y : Int) ∧ Hid (y = x % 2 ^ k)) (fun _ i => (intOf i + 1).toNat)
  case atStart => exact ⟨64, x, hn, Nat.le_refl _, rfl, rfl, hx'.out.symm⟩
  case round =>
    obtain ⟨k, y, hnk, hk, rfl, rfl, hy⟩ := hrel
    have hyl : y < 18446744073709551616 := by rw [hy.out]; exact Nat.lt_of_le_of_lt (Nat.mod_le _ _) hx
    by_cases hkn : k = n
    · subst hkn
      go_wp2
      go_ret
      exact ⟨by rw [hy.out]; rfl, rfl⟩
    · obtain ⟨j, rfl⟩ : ∃ j, k = j + 1 := ⟨k - 1, by omega⟩
      have e1 : ((j + 1 : Nat) : Int) - 1 = (j : Int) := by omega
      have hj : (n : Int) ≤ (j : Int) := by omega
      have hj2 : (j : Int) ≤ 63 := by omega
      have hp : 2 ^ j < 18446744073709551616 := Nat.pow_lt_pow_right (n := 64) (by decide) (by omega)
      rw [e1]
      have hw : IntKind.u64.wrap (2 ^ j) = ((2 ^ j : Nat) : Int) := by
        rw [IntKind.wrap_u64, show (2 : Int) ^ j = ((2 ^ j : Nat) : Int) by simp]
        generalize 2 ^ j = m at hp
        omega
      obtain ⟨m, hm⟩ : ∃ m, 2 ^ j = m := ⟨_, rfl⟩
      have yes : Hid (m ≤ y → y - m = x % 2 ^ j) := fun h => by rw [← hm, hy.out] at h ⊢; exact low_yes h
      have no : Hid (¬ m ≤ y → y = x % 2 ^ j) := fun h => by rw [← hm, hy.out] at h; rw [hy.out]; exact low_no h
      rw [hm] at hw hp
      replace hm := hide hm
      go_wp2
      · have h9 : m ≤ y := by omega
        refine ⟨⟨j, y - m, by omega, by omega, rfl, vu ?_, yes.out (by omega)⟩, by simp [intOf]⟩
        omega
      · have h9 : y < m := by omega
        exact ⟨⟨j, y, by omega, by omega, rfl, rfl, no.out (by omega)⟩, by simp [intOf]⟩
end Go.Proofs.Ytgmhnfgpkoebiaa
