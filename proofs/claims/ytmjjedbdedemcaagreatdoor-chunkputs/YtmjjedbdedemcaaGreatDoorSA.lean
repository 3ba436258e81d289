/-
  Times: mathematics, classes.
-/
import Derived.Test.YtmjjedbdedemcaaGreatDoorF
import Derived.Test.YtmjjedbdedemcaaGreatDoorCC
import Derived.Deep.Cut
namespace Go.Proofs.YtmjjedbdedemcaaGreatDoor
open Go.RowKit
set_option linter.unusedVariables false

def cAhead : Nat → Nat | 0 => 1 | 1 => 2 | 2 => 3 | _ => 4
def cSize : Nat → Nat | 0 => 0 | 1 => 7 | 2 => 12 | 3 => 20 | _ => 48
def cMark : Nat → Nat | 0 => 0 | 1 => 2 | 2 => 6 | 3 => 14 | _ => 15
/-- The class of a number. -/
def cls (z : Nat) : Nat := if z = 0 then 0 else if z < 128 then 1 else if z < 4096 then 2 else if z < 1048576 then 3 else 4
theorem cls_le (z : Nat) : cls z ≤ 4 := by unfold cls; split <;> (try split) <;> (try split) <;> (try split) <;> omega
theorem cls_room {z : Nat} (h : z < 281474976710656) : z < 2 ^ cSize (cls z) := by
  unfold cls; split <;> (try split) <;> (try split) <;> (try split) <;> simp [cSize] <;> omega
theorem cls_least {z i : Nat} (h : z < 2 ^ cSize i) (hi : i ≤ 4) : cls z ≤ i := by
  have : i = 0 ∨ i = 1 ∨ i = 2 ∨ i = 3 ∨ i = 4 := by omega
  unfold cls
  rcases this with rfl | rfl | rfl | rfl | rfl <;> simp [cSize] at h <;> split <;> (try split) <;> (try split) <;> (try split) <;> omega
theorem cSize_le (c : Nat) : cSize c ≤ 48 := by unfold cSize; split <;> omega
theorem cAhead_le (c : Nat) : cAhead c ≤ 4 := by unfold cAhead; split <;> omega
theorem cAhead_pos (c : Nat) : 1 ≤ cAhead c := by unfold cAhead; split <;> omega
theorem cMark_lt (c : Nat) : cMark c < 2 ^ cAhead c := by unfold cAhead cMark; split <;> simp
theorem five {i : Nat} (h : i ≤ 4) : i = 0 ∨ i = 1 ∨ i = 2 ∨ i = 3 ∨ i = 4 := by omega

def zigS (d : Int) : Nat := if 0 ≤ d then (2 * d).toNat else (-2 * d - 1).toNat
def zag (z : Nat) : Int := if z % 2 = 0 then ((z / 2 : Nat) : Int) else -((z / 2 : Nat) : Int) - 1
theorem zag_zig (d : Int) : zag (zigS d) = d := by unfold zag zigS; split <;> split <;> omega
theorem zig_zag (z : Nat) : zigS (zag z) = z := by unfold zag zigS; split <;> split <;> omega

/-- What is written of a time, and how many bits. -/
def zz (L D t : Nat) : Nat := zigS ((t : Int) - (L : Int) - (D : Int))
def cdX (n L D t : Nat) : Nat := if n = 0 then t else cMark (cls (zz L D t)) * 2 ^ cSize (cls (zz L D t)) + zz L D t
def cdN (n L D t : Nat) : Nat := if n = 0 then 46 else cAhead (cls (zz L D t)) + cSize (cls (zz L D t))
/-- The difference behind it. -/
def dl (n L t : Nat) : Nat := if n = 0 then 0 else t - L
structure OkS (n L D : Nat) : Prop where
  n : n ≤ 4096
  l : L ≤ 35184372088832
  d : D ≤ 35184372088832
structure OkT (n L : Nat) (t : Int) : Prop where
  ge : 0 ≤ t
  le : t ≤ 35184372088832
  up : n = 0 ∨ (L : Int) < t
instance (n L : Nat) (t : Int) : Decidable (OkT n L t) := decidable_of_iff (0 ≤ t ∧ t ≤ 35184372088832 ∧ (n = 0 ∨ (L : Int) < t)) ⟨fun h => ⟨h.1, h.2.1, h.2.2⟩, fun h => ⟨h.ge, h.le, h.up⟩⟩
instance (n L D : Nat) : Decidable (OkS n L D) := decidable_of_iff (n ≤ 4096 ∧ L ≤ 35184372088832 ∧ D ≤ 35184372088832) ⟨fun h => ⟨h.1, h.2.1, h.2.2⟩, fun h => ⟨h.n, h.l, h.d⟩⟩
theorem zz_lt {n L D t : Nat} (hs : OkS n L D) (ht : t ≤ 35184372088832) : zz L D t < 281474976710656 := by
  have := hs.l; have := hs.d; unfold zz zigS; split <;> omega
theorem cdN_le (n L D t : Nat) : cdN n L D t ≤ 52 := by
  unfold cdN; split
  · omega
  · have := cAhead_le (cls (zz L D t)); have := cSize_le (cls (zz L D t)); omega
theorem cdN_pos (n L D t : Nat) : 1 ≤ cdN n L D t := by
  unfold cdN; split
  · omega
  · have := cAhead_pos (cls (zz L D t)); omega
theorem code_lt {m z k s : Nat} (hm : m < 2 ^ k) (hz : z < 2 ^ s) : m * 2 ^ s + z < 2 ^ (k + s) := by
  rw [Nat.pow_add]
  calc m * 2 ^ s + z < m * 2 ^ s + 2 ^ s := by omega
    _ = (m + 1) * 2 ^ s := by rw [Nat.add_mul, Nat.one_mul]
    _ ≤ 2 ^ k * 2 ^ s := Nat.mul_le_mul_right _ hm
theorem cdX_lt {n L D t : Nat} (hs : OkS n L D) (ht : t ≤ 35184372088832) : cdX n L D t < 2 ^ cdN n L D t := by
  unfold cdX cdN; split
  · simp; omega
  · exact code_lt (cMark_lt _) (cls_room (zz_lt hs ht))
theorem cdX_64 {n L D t : Nat} (hs : OkS n L D) (ht : t ≤ 35184372088832) : cdX n L D t < 18446744073709551616 := by
  have h1 := cdX_lt hs ht
  have h2 : 2 ^ cdN n L D t ≤ 2 ^ 52 := Nat.pow_le_pow_right (by decide) (cdN_le n L D t)
  omega
theorem ok_next {n L D : Nat} {t : Nat} (hs : OkS n L D) (ht : OkT n L (t : Int)) (hn : n < 4096) : OkS (n + 1) t (dl n L t) := by
  have := ht.le; have := hs.l
  refine ⟨by omega, by omega, ?_⟩
  unfold dl; split <;> omega

/-- The class that is read at p, i ones behind us. -/
def rcs (V N p i : Nat) : Option Nat := if 4 ≤ i then some 4 else if 8 * N < p + i + 1 then none else if rd V N (p + i) 1 = 0 then some i else rcs V N p (i + 1)
termination_by 4 - i
theorem rcs_four (V N p : Nat) : rcs V N p 4 = some 4 := by rw [rcs]; simp
theorem rcs_none {V N p i : Nat} (h : i < 4) (hb : 8 * N < p + i + 1) : rcs V N p i = none := by rw [rcs, if_neg (by omega), if_pos hb]
theorem rcs_zero {V N p i : Nat} (h : i < 4) (hb : p + i + 1 ≤ 8 * N) (hz : rd V N (p + i) 1 = 0) : rcs V N p i = some i := by rw [rcs, if_neg (by omega), if_neg (by omega), if_pos hz]
theorem rcs_one {V N p i : Nat} (h : i < 4) (hb : p + i + 1 ≤ 8 * N) (hz : rd V N (p + i) 1 ≠ 0) : rcs V N p i = rcs V N p (i + 1) := by rw [rcs, if_neg (by omega), if_neg (by omega), if_neg hz]

theorem bit_lt (V N p : Nat) : rd V N p 1 < 2 := rd_lt V N p 1
theorem rd_two {V N p : Nat} (h : p + 2 ≤ 8 * N) : rd V N p 2 = rd V N p 1 * 2 + rd V N (p + 1) 1 := rd_more V N p 1 1 h
theorem rd_three {V N p : Nat} (h : p + 3 ≤ 8 * N) : rd V N p 3 = (rd V N p 1 * 2 + rd V N (p + 1) 1) * 2 + rd V N (p + 2) 1 := by
  rw [show rd V N p 3 = rd V N p 2 * 2 + rd V N (p + 2) 1 from rd_more V N p 2 1 h, rd_two (by omega)]
theorem rd_four {V N p : Nat} (h : p + 4 ≤ 8 * N) : rd V N p 4 = ((rd V N p 1 * 2 + rd V N (p + 1) 1) * 2 + rd V N (p + 2) 1) * 2 + rd V N (p + 3) 1 := by
  rw [show rd V N p 4 = rd V N p 3 * 2 + rd V N (p + 3) 1 from rd_more V N p 3 1 h, rd_three (by omega)]

theorem step0 {V N p : Nat} (hb : p + 1 ≤ 8 * N) (h : rd V N p 1 ≠ 0) : rcs V N p 0 = rcs V N p 1 := rcs_one (by omega) hb h
theorem step1 {V N p : Nat} (hb : p + 2 ≤ 8 * N) (h : rd V N (p + 1) 1 ≠ 0) : rcs V N p 1 = rcs V N p 2 := rcs_one (by omega) hb h
theorem step2 {V N p : Nat} (hb : p + 3 ≤ 8 * N) (h : rd V N (p + 2) 1 ≠ 0) : rcs V N p 2 = rcs V N p 3 := rcs_one (by omega) hb h
theorem step3 {V N p : Nat} (hb : p + 4 ≤ 8 * N) (h : rd V N (p + 3) 1 ≠ 0) : rcs V N p 3 = rcs V N p 4 := rcs_one (by omega) hb h
/-- What class is read, told by the bits. -/
theorem rcs_of {V N p c : Nat} (hc : c ≤ 4) (hp : p + cAhead c ≤ 8 * N) (h : rd V N p (cAhead c) = cMark c) : rcs V N p 0 = some c := by
  have b0 := bit_lt V N p; have b1 := bit_lt V N (p + 1); have b2 := bit_lt V N (p + 2); have b3 := bit_lt V N (p + 3)
  rcases five hc with rfl | rfl | rfl | rfl | rfl <;> simp only [cAhead, cMark] at hp h
  · exact rcs_zero (by omega) (by omega) h
  · rw [rd_two (by omega)] at h
    exact (step0 (by omega) (by omega)).trans (rcs_zero (by omega) (by omega) (by omega))
  · rw [rd_three (by omega)] at h
    exact (step0 (by omega) (by omega)).trans ((step1 (by omega) (by omega)).trans (rcs_zero (by omega) (by omega) (by omega)))
  · rw [rd_four (by omega)] at h
    exact (step0 (by omega) (by omega)).trans ((step1 (by omega) (by omega)).trans ((step2 (by omega) (by omega)).trans (rcs_zero (by omega) (by omega) (by omega))))
  · rw [rd_four (by omega)] at h
    exact (step0 (by omega) (by omega)).trans ((step1 (by omega) (by omega)).trans ((step2 (by omega) (by omega)).trans ((step3 (by omega) (by omega)).trans (rcs_four _ _ _))))
theorem rcs_says {V N p c : Nat} (h : rcs V N p 0 = some c) : c ≤ 4 ∧ p + cAhead c ≤ 8 * N ∧ rd V N p (cAhead c) = cMark c := by
  have b0 := bit_lt V N p; have b1 := bit_lt V N (p + 1); have b2 := bit_lt V N (p + 2); have b3 := bit_lt V N (p + 3)
  by_cases h1 : 8 * N < p + 0 + 1
  · rw [rcs_none (by omega) h1] at h; cases h
  by_cases z1 : rd V N (p + 0) 1 = 0
  · rw [rcs_zero (by omega) (by omega) z1] at h; cases h
    exact ⟨by omega, by simp only [cAhead]; omega, z1⟩
  rw [rcs_one (by omega) (by omega) z1] at h
  by_cases h2 : 8 * N < p + 1 + 1
  · rw [rcs_none (by omega) h2] at h; cases h
  by_cases z2 : rd V N (p + 1) 1 = 0
  · rw [rcs_zero (by omega) (by omega) z2] at h; cases h
    exact ⟨by omega, by simp only [cAhead]; omega, by simp only [cAhead, cMark]; rw [rd_two (by omega)]; simp at z1; omega⟩
  rw [rcs_one (by omega) (by omega) z2] at h
  by_cases h3 : 8 * N < p + 2 + 1
  · rw [rcs_none (by omega) h3] at h; cases h
  by_cases z3 : rd V N (p + 2) 1 = 0
  · rw [rcs_zero (by omega) (by omega) z3] at h; cases h
    exact ⟨by omega, by simp only [cAhead]; omega, by simp only [cAhead, cMark]; rw [rd_three (by omega)]; simp at z1; omega⟩
  rw [rcs_one (by omega) (by omega) z3] at h
  by_cases h4 : 8 * N < p + 3 + 1
  · rw [rcs_none (by omega) h4] at h; cases h
  by_cases z4 : rd V N (p + 3) 1 = 0
  · rw [rcs_zero (by omega) (by omega) z4] at h; cases h
    exact ⟨by omega, by simp only [cAhead]; omega, by simp only [cAhead, cMark]; rw [rd_four (by omega)]; simp at z1; omega⟩
  rw [rcs_one (by omega) (by omega) z4, rcs_four] at h; cases h
  exact ⟨by omega, by simp only [cAhead]; omega, by simp only [cAhead, cMark]; rw [rd_four (by omega)]; simp at z1; omega⟩

/-- What is read behind a class: the error, the time. -/
def gtc (L D V N p c : Nat) : Nat × Nat × Nat :=
  if 8 * N < p + cAhead c + cSize c then (50, 0, 0) else
  if cls (rd V N (p + cAhead c) (cSize c)) ≠ c then (60, 0, 0) else
  if (L : Int) < (L : Int) + (D : Int) + zag (rd V N (p + cAhead c) (cSize c)) ∧ (L : Int) + (D : Int) + zag (rd V N (p + cAhead c) (cSize c)) ≤ 35184372088832 then (0, ((L : Int) + (D : Int) + zag (rd V N (p + cAhead c) (cSize c))).toNat, cAhead c + cSize c) else (60, 0, 0)
/-- What is read at p: the error, the time, how many bits. -/
def gtm (n L D V N p : Nat) : Nat × Nat × Nat :=
  if n = 0 then (if 8 * N < p + 46 then (50, 0, 0) else if 35184372088832 < rd V N p 46 then (60, 0, 0) else (0, rd V N p 46, 46))
  else match rcs V N p 0 with | none => (50, 0, 0) | some c => gtc L D V N p c

theorem two_parts {a b c d s : Nat} (hb : b < 2 ^ s) (hd : d < 2 ^ s) (h : a * 2 ^ s + b = c * 2 ^ s + d) : a = c ∧ b = d := by
  have h1 : (a * 2 ^ s + b) / 2 ^ s = a := by rw [Nat.mul_comm, Nat.mul_add_div (Nat.two_pow_pos s), Nat.div_eq_of_lt hb, Nat.add_zero]
  have h2 : (c * 2 ^ s + d) / 2 ^ s = c := by rw [Nat.mul_comm, Nat.mul_add_div (Nat.two_pow_pos s), Nat.div_eq_of_lt hd, Nat.add_zero]
  have e : a = c := by rw [← h1, h, h2]
  subst e
  exact ⟨rfl, by omega⟩

theorem gtm_ok {n L D V N p t k : Nat} (h : gtm n L D V N p = (0, t, k)) : OkT n L (t : Int) ∧ k = cdN n L D t ∧ p + k ≤ 8 * N ∧ rd V N p k = cdX n L D t := by
  unfold gtm at h
  by_cases hn : n = 0
  · rw [if_pos hn] at h
    split at h
    · simp at h
    · split at h
      · simp at h
      · simp only [Prod.mk.injEq, true_and] at h
        obtain ⟨rfl, rfl⟩ := h
        exact ⟨⟨by omega, by omega, .inl hn⟩, by simp [cdN, hn], by omega, by simp [cdX, hn]⟩
  · rw [if_neg hn] at h
    cases hc : rcs V N p 0 with
    | none => rw [hc] at h; simp at h
    | some c =>
      obtain ⟨c1, c2, c3⟩ := rcs_says hc
      rw [hc] at h
      simp only [gtc] at h
      split at h
      · simp at h
      · split at h
        · simp at h
        · rename_i hcl
          split at h
          · rename_i hup
            simp only [Prod.mk.injEq, true_and] at h
            obtain ⟨h1, rfl⟩ := h
            have hz : zz L D t = rd V N (p + cAhead c) (cSize c) := by
              unfold zz
              rw [show (t : Int) - (L : Int) - (D : Int) = zag (rd V N (p + cAhead c) (cSize c)) by omega, zig_zag]
            have hcl2 : cls (zz L D t) = c := by rw [hz]; exact Classical.not_not.1 hcl
            refine ⟨⟨by omega, by omega, .inr (by omega)⟩, by simp [cdN, hn, hcl2], by omega, ?_⟩
            rw [rd_more _ _ _ _ _ (by omega), c3, cdX, if_neg hn, hcl2, hz]
          · simp at h
theorem gtm_of {n L D V N p t : Nat} (hs : OkS n L D) (ht : OkT n L (t : Int)) (hp : p + cdN n L D t ≤ 8 * N) (h : rd V N p (cdN n L D t) = cdX n L D t) : gtm n L D V N p = (0, t, cdN n L D t) := by
  unfold gtm
  by_cases hn : n = 0
  · rw [if_pos hn]
    simp only [cdN, hn, cdX, if_true] at hp h ⊢
    have := ht.le
    rw [if_neg (by omega), h, if_neg (by omega)]
  · rw [if_neg hn]
    simp only [cdN, cdX, if_neg hn] at hp h ⊢
    have hle := ht.le
    have hz := cls_room (zz_lt hs (show t ≤ 35184372088832 by omega))
    rw [rd_more _ _ _ _ _ (by omega)] at h
    obtain ⟨h1, h2⟩ := two_parts (rd_lt _ _ _ _) hz h
    rw [rcs_of (cls_le _) (by omega) h1]
    simp only [gtc]
    have hup : (L : Int) < (t : Int) := by rcases ht.up with h | h <;> omega
    have e : (L : Int) + (D : Int) + zag (zz L D t) = (t : Int) := by unfold zz; rw [zag_zig]; omega
    rw [if_neg (by omega), h2, if_neg (by simp), e, if_pos ⟨hup, hle⟩]
    simp
theorem gtm_err (n L D V N p : Nat) : (gtm n L D V N p).1 = 0 ∨ (gtm n L D V N p = (50, 0, 0)) ∨ (gtm n L D V N p = (60, 0, 0)) := by
  unfold gtm
  by_cases hn : n = 0
  · rw [if_pos hn]; split
    · simp
    · split <;> simp
  · rw [if_neg hn]
    cases hc : rcs V N p 0 with
    | none => simp
    | some c =>
      simp only [gtc]
      split
      · simp
      · split
        · simp
        · split <;> simp
set_option linter.unusedSimpArgs false

def isCnt (n : Int) : Bool := decide (0 ≤ n ∧ n ≤ 4096)
def isTim (t : Int) : Bool := decide (0 ≤ t ∧ t ≤ 35184372088832)
def okSI (n l d : Int) : Bool := isCnt n && isTim l && isTim d
def okTI (n l t : Int) : Bool := isTim t && (decide (n = 0) || decide (l < t))

set_option maxHeartbeats 400000 in
theorem count_any (n : Int) (w : World) : Calls Tryz.prog 86 #[.int .i64 n] w fun e w' => e = .returned (.bool (isCnt n)) ∧ w' = w := by
  unfold isCnt
  by_cases h0 : 0 ≤ n
  · by_cases h1 : n ≤ 4096
    · go_enter Tryz.func86, Tryz.ntmps86
      go_wp2
      go_ret
      exact ⟨ret_bool (by simp; omega), rfl⟩
    · go_enter Tryz.func86, Tryz.ntmps86
      go_wp2
      go_ret
      exact ⟨ret_bool (by simp; omega), rfl⟩
  · go_enter Tryz.func86, Tryz.ntmps86
    go_wp2
    go_ret
    exact ⟨ret_bool (by simp; omega), rfl⟩
set_option maxHeartbeats 400000 in
theorem time_any (n : Int) (w : World) : Calls Tryz.prog 87 #[.int .i64 n] w fun e w' => e = .returned (.bool (isTim n)) ∧ w' = w := by
  unfold isTim
  by_cases h0 : 0 ≤ n
  · by_cases h1 : n ≤ 35184372088832
    · go_enter Tryz.func87, Tryz.ntmps87
      go_wp2
      go_ret
      exact ⟨ret_bool (by simp; omega), rfl⟩
    · go_enter Tryz.func87, Tryz.ntmps87
      go_wp2
      go_ret
      exact ⟨ret_bool (by simp; omega), rfl⟩
  · go_enter Tryz.func87, Tryz.ntmps87
    go_wp2
    go_ret
    exact ⟨ret_bool (by simp; omega), rfl⟩

set_option maxHeartbeats 1000000 in
theorem mayBe_any (n l d : Int) (w : World) : Calls Tryz.prog 64 #[.agg #[.int .i64 n, .int .i64 l, .int .i64 d]] w fun e w' => e = .returned (.bool (okSI n l d)) ∧ Below w.heap.size w w' := by
  have B0 : Hid (Below w.heap.size w (w.alloc (.cells #[.int .i64 n, .int .i64 l, .int .i64 d] 60))) := (Below.refl _ w).alloc (Nat.le_refl _) _
  have C := hide (count_any n)
  have L := hide (time_any l)
  have D := hide (time_any d)
  unfold okSI
  cases h0 : isCnt n <;> rw [h0] at C
  · go_enter Tryz.func64, Tryz.ntmps64
    go_wp2_with (go_at_call 86; refine (C.out _).mono ?_; rintro e wq ⟨rfl, rfl⟩)
    go_ret
    exact ⟨ret_bool (by simp), B0.out⟩
  · cases h1 : isTim l <;> rw [h1] at L
    · go_enter Tryz.func64, Tryz.ntmps64
      go_wp2_with (first | (go_at_call 86; refine (C.out _).mono ?_; rintro e wq ⟨rfl, rfl⟩) | (go_at_call 87; refine (L.out _).mono ?_; rintro e wq ⟨rfl, rfl⟩))
      go_ret
      exact ⟨ret_bool (by simp), B0.out⟩
    · go_enter Tryz.func64, Tryz.ntmps64
      go_wp2_with fail
      refine (C.out _).mono ?_
      rintro e wq ⟨rfl, rfl⟩
      go_wp2_with fail
      refine (L.out _).mono ?_
      rintro e wq ⟨rfl, rfl⟩
      go_wp2_with fail
      refine (D.out _).mono ?_
      rintro e wq ⟨rfl, rfl⟩
      go_wp2_with fail
      go_ret
      exact ⟨ret_bool (by simp), B0.out⟩

set_option maxHeartbeats 1000000 in
theorem mayFollow_any (n l d t : Int) (w : World) : Calls Tryz.prog 65 #[.agg #[.int .i64 n, .int .i64 l, .int .i64 d], .int .i64 t] w fun e w' => e = .returned (.bool (okTI n l t)) ∧ Below w.heap.size w w' := by
  have B0 : Hid (Below w.heap.size w (w.alloc (.cells #[.int .i64 n, .int .i64 l, .int .i64 d] 60))) := (Below.refl _ w).alloc (Nat.le_refl _) _
  have C := hide (time_any t)
  unfold okTI
  cases h0 : isTim t <;> rw [h0] at C
  · go_enter Tryz.func65, Tryz.ntmps65
    go_wp2_with (go_at_call 87; refine (C.out _).mono ?_; rintro e wq ⟨rfl, rfl⟩)
    go_ret
    exact ⟨ret_bool (by simp), B0.out⟩
  · by_cases h1 : n = 0
    · subst h1
      go_enter Tryz.func65, Tryz.ntmps65
      go_wp2_with (go_at_call 87; refine (C.out _).mono ?_; rintro e wq ⟨rfl, rfl⟩)
      go_ret
      exact ⟨ret_bool (by simp), B0.out⟩
    · by_cases h2 : l < t
      · go_enter Tryz.func65, Tryz.ntmps65
        go_wp2_with (go_at_call 87; refine (C.out _).mono ?_; rintro e wq ⟨rfl, rfl⟩)
        go_ret
        exact ⟨ret_bool (by simp [h1, h2]), B0.out⟩
      · go_enter Tryz.func65, Tryz.ntmps65
        go_wp2_with (go_at_call 87; refine (C.out _).mono ?_; rintro e wq ⟨rfl, rfl⟩)
        go_ret
        exact ⟨ret_bool (by simp [h1, h2]), B0.out⟩

set_option maxHeartbeats 1000000 in
theorem right_any (n l d : Int) (w : World) : Calls Tryz.prog 41 #[.agg #[.int .i64 n, .int .i64 l, .int .i64 d]] w fun e w' => e = .returned (.bool (okSI n l d)) ∧ Below w.heap.size w w' := by
  have B0 : Hid (Below w.heap.size w (w.alloc (.cells #[.int .i64 n, .int .i64 l, .int .i64 d] 49))) := (Below.refl _ w).alloc (Nat.le_refl _) _
  unfold okSI isCnt isTim
  by_cases h1 : 0 ≤ n
  · by_cases h2 : n ≤ 4096
    · by_cases h3 : 0 ≤ d
      · by_cases h4 : d ≤ 35184372088832
        · by_cases h5 : 0 ≤ l
          · by_cases h6 : l ≤ 35184372088832
            · go_enter Tryz.func41, Tryz.ntmps41
              go_wp2
              go_ret
              exact ⟨ret_bool (by simp; omega), B0.out⟩
            · go_enter Tryz.func41, Tryz.ntmps41
              go_wp2
              go_ret
              exact ⟨ret_bool (by simp; omega), B0.out⟩
          · go_enter Tryz.func41, Tryz.ntmps41
            go_wp2
            go_ret
            exact ⟨ret_bool (by simp; omega), B0.out⟩
        · go_enter Tryz.func41, Tryz.ntmps41
          go_wp2
          go_ret
          exact ⟨ret_bool (by simp; omega), B0.out⟩
      · go_enter Tryz.func41, Tryz.ntmps41
        go_wp2
        go_ret
        exact ⟨ret_bool (by simp; omega), B0.out⟩
    · go_enter Tryz.func41, Tryz.ntmps41
      go_wp2
      go_ret
      exact ⟨ret_bool (by simp; omega), B0.out⟩
  · go_enter Tryz.func41, Tryz.ntmps41
    go_wp2
    go_ret
    exact ⟨ret_bool (by simp; omega), B0.out⟩

set_option maxHeartbeats 1000000 in
theorem class_any (z : Nat) (w : World) : Calls Tryz.prog 43 #[.int .u64 (z : Int)] w fun e w' => e = .returned (.tuple #[.int .i64 ((cls z : Nat) : Int), .int .i64 ((cSize (cls z) : Nat) : Int)]) ∧ w' = w := by
  obtain ⟨y, hy⟩ : ∃ y : Int, (z : Int) = y := ⟨_, rfl⟩
  rw [hy]
  rcases (show y = 0 ∨ (¬ y = 0 ∧ y < 128) ∨ (¬ y = 0 ∧ ¬ y < 128 ∧ y < 4096) ∨ (¬ y = 0 ∧ ¬ y < 128 ∧ ¬ y < 4096 ∧ y < 1048576) ∨ (¬ y = 0 ∧ ¬ y < 128 ∧ ¬ y < 4096 ∧ ¬ y < 1048576) by omega) with h | ⟨h, h1⟩ | ⟨h, h1, h2⟩ | ⟨h, h1, h2, h3⟩ | ⟨h, h1, h2, h3⟩
  · rw [show cls z = 0 by unfold cls; rw [if_pos (by omega)]]
    clear hy
    subst h
    go_enter Tryz.func43, Tryz.ntmps43
    go_wp2
    go_ret2
    exact ⟨rfl, rfl⟩
  · rw [show cls z = 1 by unfold cls; rw [if_neg (by omega), if_pos (by omega)]]
    clear hy
    go_enter Tryz.func43, Tryz.ntmps43
    go_wp2
    go_ret2
    exact ⟨rfl, rfl⟩
  · rw [show cls z = 2 by unfold cls; rw [if_neg (by omega), if_neg (by omega), if_pos (by omega)]]
    clear hy
    go_enter Tryz.func43, Tryz.ntmps43
    go_wp2
    go_ret2
    exact ⟨rfl, rfl⟩
  · rw [show cls z = 3 by unfold cls; rw [if_neg (by omega), if_neg (by omega), if_neg (by omega), if_pos (by omega)]]
    clear hy
    go_enter Tryz.func43, Tryz.ntmps43
    go_wp2
    go_ret2
    exact ⟨rfl, rfl⟩
  · rw [show cls z = 4 by unfold cls; rw [if_neg (by omega), if_neg (by omega), if_neg (by omega), if_neg (by omega)]]
    clear hy
    go_enter Tryz.func43, Tryz.ntmps43
    go_wp2
    go_ret2
    exact ⟨rfl, rfl⟩
set_option linter.unusedSimpArgs false

theorem xor_all (a : Nat) (ha : a < 18446744073709551616) : a ^^^ 18446744073709551615 = 18446744073709551615 - a := by
  have h := congrArg BitVec.toNat (BitVec.xor_allOnes (x := BitVec.ofNat 64 a))
  rw [BitVec.toNat_xor, BitVec.toNat_not, BitVec.toNat_allOnes, BitVec.toNat_ofNat, Nat.mod_eq_of_lt (by omega)] at h
  simpa using h
theorem u64_xor_all (a : Nat) (ha : a < 18446744073709551616) : bits .xor .u64 (a : Int) 18446744073709551615 = ((18446744073709551615 - a : Nat) : Int) := by
  have := u64_xor_nat a 18446744073709551615 ha (by decide)
  rw [xor_all a ha] at this
  exact this
theorem i64_xor_all (a : Nat) (ha : a < 9223372036854775808) : bits .xor .i64 (a : Int) (-1) = -(a : Int) - 1 := by
  show IntKind.i64.wrap ((BitVec.ofInt 64 (a : Int) ^^^ BitVec.ofInt 64 (-1)).toNat : Int) = _
  rw [show BitVec.ofInt 64 (-1) = BitVec.allOnes 64 by decide, BitVec.toNat_xor, BitVec.toNat_allOnes, ofInt_u64 a (by omega), show 2 ^ 64 - 1 = 18446744073709551615 by decide, xor_all a (by omega), IntKind.wrap_i64]
  omega
theorem i64_xor_none (a : Nat) (ha : a < 9223372036854775808) : bits .xor .i64 (a : Int) 0 = (a : Int) := by
  show IntKind.i64.wrap ((BitVec.ofInt 64 (a : Int) ^^^ BitVec.ofInt 64 0).toNat : Int) = _
  rw [show BitVec.ofInt 64 0 = 0#64 by decide, BitVec.xor_zero, ofInt_u64 a (by omega), IntKind.wrap_i64]
  omega
theorem u64_and_one (a : Nat) (ha : a < 18446744073709551616) : bits .and .u64 (a : Int) 1 = ((a % 2 : Nat) : Int) := by
  have := u64_and_nat a 1 ha (by decide)
  rw [nat_mask1] at this
  exact this

set_option maxHeartbeats 400000 in
theorem fold_any (d : Int) (w : World) (h0 : -281474976710656 ≤ d) (h1 : d ≤ 281474976710656) : Calls Tryz.prog 88 #[.int .i64 d] w fun e w' => e = .returned (.int .u64 ((zigS d : Nat) : Int)) ∧ w' = w := by
  by_cases hd : 0 ≤ d
  · have hz : Hid (bits .xor .u64 ((2 * d.toNat : Nat) : Int) 0 = ((zigS d : Nat) : Int)) := by
      show _ = _
      have := u64_xor_nat (2 * d.toNat) 0 (by omega) (by decide)
      rw [Nat.xor_zero] at this
      rw [show zigS d = 2 * d.toNat by unfold zigS; rw [if_pos hd]; omega]
      exact this
    go_enter Tryz.func88, Tryz.ntmps88
    go_wp2
    go_ret
    refine ⟨ret_int ?_, rfl⟩
    rw [← hz.out]
    congr 1
    · (try simp only [IntKind.wrap_u64]); omega
    · (try simp only [IntKind.wrap_u64]); omega
  · have hz : Hid (bits .xor .u64 ((18446744073709551616 - 2 * (-d).toNat : Nat) : Int) 18446744073709551615 = ((zigS d : Nat) : Int)) := by
      show _ = _
      rw [u64_xor_all _ (by omega), show zigS d = 2 * (-d).toNat - 1 by unfold zigS; rw [if_neg hd]; omega]
      congr 1
      omega
    go_enter Tryz.func88, Tryz.ntmps88
    go_wp2
    go_ret
    refine ⟨ret_int ?_, rfl⟩
    rw [← hz.out]
    congr 1
    · (try simp only [IntKind.wrap_u64]); omega
    · (try simp only [IntKind.wrap_u64]); omega

set_option maxHeartbeats 400000 in
theorem unfold_any (z : Nat) (w : World) (h : z < 281474976710656) : Calls Tryz.prog 112 #[.int .u64 (z : Int)] w fun e w' => e = .returned (.int .i64 (zag z)) ∧ w' = w := by
  have ha := u64_and_one z (by omega)
  by_cases h2 : z % 2 = 0
  · have hz := hide (i64_xor_none (z / 2) (by omega))
    rw [h2] at ha
    have hg : zag z = ((z / 2 : Nat) : Int) := by unfold zag; rw [if_pos h2]
    rw [hg]
    have hh := hide h2
    clear h2 hg
    go_enter Tryz.func112, Tryz.ntmps112
    go_wp2
    go_ret
    refine ⟨ret_int ?_, rfl⟩
    refine Eq.trans ?_ hz.out
    congr 1
  · have hz := hide (i64_xor_all (z / 2) (by omega))
    rw [show z % 2 = 1 by omega] at ha
    have hg : zag z = -((z / 2 : Nat) : Int) - 1 := by unfold zag; rw [if_neg h2]
    rw [hg]
    have hh := hide h2
    clear h2 hg
    go_enter Tryz.func112, Tryz.ntmps112
    go_wp2
    go_ret
    refine ⟨ret_int ?_, rfl⟩
    refine Eq.trans ?_ hz.out
    congr 1
set_option linter.unusedSimpArgs false

/-- The table of classes, as it lies. -/
def TabS (w : World) : Prop := ∃ t fr, w.heap[0]? = some (.cells #[.int .u64 0, .int .i64 1, .int .i64 0, .int .u64 2, .int .i64 2, .int .i64 7, .int .u64 6, .int .i64 3, .int .i64 12, .int .u64 14, .int .i64 4, .int .i64 20, .int .u64 15, .int .i64 4, .int .i64 48] t fr)
theorem TabS.pos {w : World} (h : TabS w) : 0 < w.heap.size := by
  obtain ⟨t, fr, h⟩ := h
  exact (Array.getElem?_eq_some_iff.1 h).1
theorem TabS.kept {w w' : World} {B : Nat} (h : TabS w) (hb : Below B w w') (hB : 0 < B) : TabS w' := by
  obtain ⟨t, fr, h⟩ := h
  exact ⟨t, fr, (hb.block 0 hB).trans h⟩
theorem info100 : (Tryz.prog.info? 165).map (·.size) = some 15 := by kernel_rfl

theorem index0 (w : World) : (Instr.index 165 (.agg #[.int .u64 0, .int .i64 1, .int .i64 0, .int .u64 2, .int .i64 2, .int .i64 7, .int .u64 6, .int .i64 3, .int .i64 12, .int .u64 14, .int .i64 4, .int .i64 20, .int .u64 15, .int .i64 4, .int .i64 48]) (.int .i64 0)).run Tryz.prog w = .ok (.agg #[.int .u64 0, .int .i64 1, .int .i64 0]) w := by kernel_rfl
theorem index1 (w : World) : (Instr.index 165 (.agg #[.int .u64 0, .int .i64 1, .int .i64 0, .int .u64 2, .int .i64 2, .int .i64 7, .int .u64 6, .int .i64 3, .int .i64 12, .int .u64 14, .int .i64 4, .int .i64 20, .int .u64 15, .int .i64 4, .int .i64 48]) (.int .i64 1)).run Tryz.prog w = .ok (.agg #[.int .u64 2, .int .i64 2, .int .i64 7]) w := by kernel_rfl
theorem index2 (w : World) : (Instr.index 165 (.agg #[.int .u64 0, .int .i64 1, .int .i64 0, .int .u64 2, .int .i64 2, .int .i64 7, .int .u64 6, .int .i64 3, .int .i64 12, .int .u64 14, .int .i64 4, .int .i64 20, .int .u64 15, .int .i64 4, .int .i64 48]) (.int .i64 2)).run Tryz.prog w = .ok (.agg #[.int .u64 6, .int .i64 3, .int .i64 12]) w := by kernel_rfl
theorem index3 (w : World) : (Instr.index 165 (.agg #[.int .u64 0, .int .i64 1, .int .i64 0, .int .u64 2, .int .i64 2, .int .i64 7, .int .u64 6, .int .i64 3, .int .i64 12, .int .u64 14, .int .i64 4, .int .i64 20, .int .u64 15, .int .i64 4, .int .i64 48]) (.int .i64 3)).run Tryz.prog w = .ok (.agg #[.int .u64 14, .int .i64 4, .int .i64 20]) w := by kernel_rfl
theorem index4 (w : World) : (Instr.index 165 (.agg #[.int .u64 0, .int .i64 1, .int .i64 0, .int .u64 2, .int .i64 2, .int .i64 7, .int .u64 6, .int .i64 3, .int .i64 12, .int .u64 14, .int .i64 4, .int .i64 20, .int .u64 15, .int .i64 4, .int .i64 48]) (.int .i64 4)).run Tryz.prog w = .ok (.agg #[.int .u64 15, .int .i64 4, .int .i64 48]) w := by kernel_rfl

/-- A class as a value. -/
def clsV (c : Nat) : Value := .agg #[.int .u64 ((cMark c : Nat) : Int), .int .i64 ((cAhead c : Nat) : Int), .int .i64 ((cSize c : Nat) : Int)]

/-- A box of three values, which may be written. -/
structure Box3 (w : World) (g : Nat) (x y z : Value) : Prop where
  c0 : w.cell? ⟨g, 0, none⟩ = some x
  c1 : w.cell? ⟨g, 1, none⟩ = some y
  c2 : w.cell? ⟨g, 2, none⟩ = some z
  f0 : w.frozen? ⟨g, 0, none⟩ = false
  f1 : w.frozen? ⟨g, 1, none⟩ = false
  f2 : w.frozen? ⟨g, 2, none⟩ = false
  lt : g < w.heap.size
theorem Box3.new (w : World) (x y z : Value) (t : TypeId) : Box3 (w.alloc (.cells #[x, y, z] t)) w.heap.size x y z := by
  refine ⟨?_, ?_, ?_, ?_, ?_, ?_, by simp⟩
  · unfold World.cell?; rw [heap_alloc_new]; rfl
  · unfold World.cell?; rw [heap_alloc_new]; rfl
  · unfold World.cell?; rw [heap_alloc_new]; rfl
  · unfold World.frozen?; rw [heap_alloc_new]; simp
  · unfold World.frozen?; rw [heap_alloc_new]; simp
  · unfold World.frozen?; rw [heap_alloc_new]; simp
theorem Box3.kept {w w' : World} {g B : Nat} {x y z : Value} (h : Box3 w g x y z) (hb : Below B w w') (hB : g < B) : Box3 w' g x y z :=
  ⟨(hb.cell (p := ⟨g, 0, none⟩) hB).trans h.c0, (hb.cell (p := ⟨g, 1, none⟩) hB).trans h.c1, (hb.cell (p := ⟨g, 2, none⟩) hB).trans h.c2, (hb.frozen (p := ⟨g, 0, none⟩) hB).trans h.f0, (hb.frozen (p := ⟨g, 1, none⟩) hB).trans h.f1, (hb.frozen (p := ⟨g, 2, none⟩) hB).trans h.f2, Nat.lt_of_lt_of_le h.lt hb.size⟩
theorem Box3.o1 {w : World} {g : Nat} {x y z : Value} (h : Box3 w g x y z) : ∀ u, (w.setCell ⟨g, 0, none⟩ u).cell? ⟨g, 1, none⟩ = some y := fun u => (World.cell?_setCell_other _ _ _ _ (by simp)).trans h.c1
theorem Box3.o2 {w : World} {g : Nat} {x y z : Value} (h : Box3 w g x y z) : ∀ u v, ((w.setCell ⟨g, 0, none⟩ u).setCell ⟨g, 1, none⟩ v).cell? ⟨g, 2, none⟩ = some z := fun u v => (World.cell?_setCell_other _ _ _ _ (by simp)).trans ((World.cell?_setCell_other _ _ _ _ (by simp)).trans h.c2)
theorem Box3.set {w : World} {g : Nat} {x y z : Value} (h : Box3 w g x y z) (x' y' z' : Value) : Box3 (((w.setCell ⟨g, 0, none⟩ x').setCell ⟨g, 1, none⟩ y').setCell ⟨g, 2, none⟩ z') g x' y' z' := by
  refine ⟨?_, ?_, World.cell?_setCell_same _ _ _ (h.o2 _ _), by simp only [World.frozen?_setCell]; exact h.f0, by simp only [World.frozen?_setCell]; exact h.f1, by simp only [World.frozen?_setCell]; exact h.f2, by simp only [World.size_setCell]; exact h.lt⟩
  · exact (World.cell?_setCell_other _ _ _ _ (by simp)).trans ((World.cell?_setCell_other _ _ _ _ (by simp)).trans (World.cell?_setCell_same _ _ _ h.c0))
  · exact (World.cell?_setCell_other _ _ _ _ (by simp)).trans (World.cell?_setCell_same _ _ _ (h.o1 _))
theorem below_set3 {w w' : World} {B g : Nat} (h : Below B w w') (hg : B ≤ g) (x y z : Value) : Below B w (((w'.setCell ⟨g, 0, none⟩ x).setCell ⟨g, 1, none⟩ y).setCell ⟨g, 2, none⟩ z) :=
  ((h.setCell (p := ⟨g, 0, none⟩) hg x).setCell (p := ⟨g, 1, none⟩) hg y).setCell (p := ⟨g, 2, none⟩) hg z

set_option maxHeartbeats 1000000 in
theorem classOf_any (z : Nat) (w : World) (hz : z < 281474976710656) (ht : TabS w) : Calls Tryz.prog 89 #[.int .u64 (z : Int)] w fun e w' => e = .returned (clsV (cls z)) ∧ Below w.heap.size w w' := by
  have B0 : Hid (Below w.heap.size w (w.alloc (.cells #[.int .u64 0, .int .i64 0, .int .i64 0] 145))) := (Below.refl _ w).alloc (Nat.le_refl _) _
  have X0 := hide (Box3.new w (.int .u64 0) (.int .i64 0) (.int .i64 0) 145)
  obtain ⟨t, fr, T0⟩ := ht.kept B0.out ht.pos
  replace T0 := hide T0
  clear ht
  obtain ⟨y, hy⟩ : ∃ y : Int, (z : Int) = y := ⟨_, rfl⟩
  rw [hy]
  replace hy := hide hy
  go_enter Tryz.func89, Tryz.ntmps89
  go_wp2_with (refine wpList_load_row rfl 165 (.global 0) rfl 0 rfl _ _ _ _ T0.out Tryz.underlying165 rfl info100 ?_)
  go_loopw [6] (fun i wr => ∃ k : Nat, k ≤ cls z ∧ i = .int .i64 (k : Int) ∧ Hid (Box3 wr w.heap.size (.int .u64 0) (.int .i64 0) (.int .i64 0)) ∧ Hid (Below w.heap.size w wr)) (fun i _ => 5 - (intOf i).toNat)
  case atStart => exact ⟨0, Nat.zero_le _, rfl, X0, B0⟩
  case round =>
    obtain ⟨k, hk, rfl, X, B⟩ := hrel
    clear X0 B0 T0
    have hk4 := cls_le z
    have hcases := five (show k ≤ 4 by omega)
    have hyy := hy.out
    rcases hcases with rfl | rfl | rfl | rfl | rfl
    · simp only [show ((0 : Nat) : Int) = 0 from rfl]
      have hix := index0
      by_cases hc : cls z = 0
      · have hzr : z < 2 ^ cSize 0 := by have := cls_room hz; rw [hc] at this; exact this
        simp only [cSize, Nat.reducePow] at hzr
        have hc2 : y = 0 := by omega
        have b1 := hide (B.out.alloc B.out.size (.cells #[.int .u64 0, .int .i64 1, .int .i64 0] 145))
        have XX := X.out.kept (Below.refl wr.heap.size wr |>.alloc (Nat.le_refl _) (.cells #[.int .u64 0, .int .i64 1, .int .i64 0] 145)) X.out.lt
        have X2 := hide (XX.set (.int .u64 0) (.int .i64 1) (.int .i64 0))
        have b2 := hide (below_set3 b1.out (Nat.le_refl _) (.int .u64 0) (.int .i64 1) (.int .i64 0))
        have p7 := XX.o1
        have p8 := XX.o2
        obtain ⟨p0, p1, p2, p3, p4, p5, p6⟩ := XX
        have o0 := X2.out.c0
        have o1 := X2.out.c1
        have o2 := X2.out.c2
        have hcv : Hid (clsV (cls z) = .agg #[.int .u64 0, .int .i64 1, .int .i64 0]) := by rw [hc]; rfl
        replace hyy := hide hyy
        replace hc := hide hc
        go_wp2_with fail
        refine bodyPost_ret (v := .agg #[.int .u64 0, .int .i64 1, .int .i64 0]) (by simp [results, Tryz.f89, go_sem, o0, o1, o2]) rfl ?_
        exact ⟨by rw [hcv.out], b2.out⟩
      · have hzr : ¬ z < 2 ^ cSize 0 := fun h => by have := cls_least h (by omega); omega
        simp only [cSize, Nat.reducePow] at hzr
        have hc2 : ¬ y = 0 := by omega
        have b1 := hide (B.out.alloc B.out.size (.cells #[.int .u64 0, .int .i64 1, .int .i64 0] 145))
        have X1 := hide (X.out.kept (Below.refl wr.heap.size wr |>.alloc (Nat.le_refl _) (.cells #[.int .u64 0, .int .i64 1, .int .i64 0] 145)) X.out.lt)
        have hk5 : 1 ≤ cls z := by omega
        replace hyy := hide hyy
        clear hzr
        replace hc := hide hc
        replace hk := hide hk
        replace hk4 := hide hk4
        replace hk5 := hide hk5
        go_wp2_with fail
        go_roundw
        case rel => exact ⟨1, hk5.out, by go_num, X1, b1⟩
        case measure => simp [intOf]
    · simp only [show ((1 : Nat) : Int) = 1 from rfl]
      have hix := index1
      by_cases hc : cls z = 1
      · have hzr : z < 2 ^ cSize 1 := by have := cls_room hz; rw [hc] at this; exact this
        simp only [cSize, Nat.reducePow] at hzr
        have hc2 : y / 128 = 0 := by omega
        have b1 := hide (B.out.alloc B.out.size (.cells #[.int .u64 2, .int .i64 2, .int .i64 7] 145))
        have XX := X.out.kept (Below.refl wr.heap.size wr |>.alloc (Nat.le_refl _) (.cells #[.int .u64 2, .int .i64 2, .int .i64 7] 145)) X.out.lt
        have X2 := hide (XX.set (.int .u64 2) (.int .i64 2) (.int .i64 7))
        have b2 := hide (below_set3 b1.out (Nat.le_refl _) (.int .u64 2) (.int .i64 2) (.int .i64 7))
        have p7 := XX.o1
        have p8 := XX.o2
        obtain ⟨p0, p1, p2, p3, p4, p5, p6⟩ := XX
        have o0 := X2.out.c0
        have o1 := X2.out.c1
        have o2 := X2.out.c2
        have hcv : Hid (clsV (cls z) = .agg #[.int .u64 2, .int .i64 2, .int .i64 7]) := by rw [hc]; rfl
        replace hyy := hide hyy
        replace hc := hide hc
        go_wp2_with fail
        refine bodyPost_ret (v := .agg #[.int .u64 2, .int .i64 2, .int .i64 7]) (by simp [results, Tryz.f89, go_sem, o0, o1, o2]) rfl ?_
        exact ⟨by rw [hcv.out], b2.out⟩
      · have hzr : ¬ z < 2 ^ cSize 1 := fun h => by have := cls_least h (by omega); omega
        simp only [cSize, Nat.reducePow] at hzr
        have hc2 : ¬ y / 128 = 0 := by omega
        have b1 := hide (B.out.alloc B.out.size (.cells #[.int .u64 2, .int .i64 2, .int .i64 7] 145))
        have X1 := hide (X.out.kept (Below.refl wr.heap.size wr |>.alloc (Nat.le_refl _) (.cells #[.int .u64 2, .int .i64 2, .int .i64 7] 145)) X.out.lt)
        have hk5 : 2 ≤ cls z := by omega
        replace hyy := hide hyy
        clear hzr
        replace hc := hide hc
        replace hk := hide hk
        replace hk4 := hide hk4
        replace hk5 := hide hk5
        go_wp2_with fail
        go_roundw
        case rel => exact ⟨2, hk5.out, by go_num, X1, b1⟩
        case measure => simp [intOf]
    · simp only [show ((2 : Nat) : Int) = 2 from rfl]
      have hix := index2
      by_cases hc : cls z = 2
      · have hzr : z < 2 ^ cSize 2 := by have := cls_room hz; rw [hc] at this; exact this
        simp only [cSize, Nat.reducePow] at hzr
        have hc2 : y / 4096 = 0 := by omega
        have b1 := hide (B.out.alloc B.out.size (.cells #[.int .u64 6, .int .i64 3, .int .i64 12] 145))
        have XX := X.out.kept (Below.refl wr.heap.size wr |>.alloc (Nat.le_refl _) (.cells #[.int .u64 6, .int .i64 3, .int .i64 12] 145)) X.out.lt
        have X2 := hide (XX.set (.int .u64 6) (.int .i64 3) (.int .i64 12))
        have b2 := hide (below_set3 b1.out (Nat.le_refl _) (.int .u64 6) (.int .i64 3) (.int .i64 12))
        have p7 := XX.o1
        have p8 := XX.o2
        obtain ⟨p0, p1, p2, p3, p4, p5, p6⟩ := XX
        have o0 := X2.out.c0
        have o1 := X2.out.c1
        have o2 := X2.out.c2
        have hcv : Hid (clsV (cls z) = .agg #[.int .u64 6, .int .i64 3, .int .i64 12]) := by rw [hc]; rfl
        replace hyy := hide hyy
        replace hc := hide hc
        go_wp2_with fail
        refine bodyPost_ret (v := .agg #[.int .u64 6, .int .i64 3, .int .i64 12]) (by simp [results, Tryz.f89, go_sem, o0, o1, o2]) rfl ?_
        exact ⟨by rw [hcv.out], b2.out⟩
      · have hzr : ¬ z < 2 ^ cSize 2 := fun h => by have := cls_least h (by omega); omega
        simp only [cSize, Nat.reducePow] at hzr
        have hc2 : ¬ y / 4096 = 0 := by omega
        have b1 := hide (B.out.alloc B.out.size (.cells #[.int .u64 6, .int .i64 3, .int .i64 12] 145))
        have X1 := hide (X.out.kept (Below.refl wr.heap.size wr |>.alloc (Nat.le_refl _) (.cells #[.int .u64 6, .int .i64 3, .int .i64 12] 145)) X.out.lt)
        have hk5 : 3 ≤ cls z := by omega
        replace hyy := hide hyy
        clear hzr
        replace hc := hide hc
        replace hk := hide hk
        replace hk4 := hide hk4
        replace hk5 := hide hk5
        go_wp2_with fail
        go_roundw
        case rel => exact ⟨3, hk5.out, by go_num, X1, b1⟩
        case measure => simp [intOf]
    · simp only [show ((3 : Nat) : Int) = 3 from rfl]
      have hix := index3
      by_cases hc : cls z = 3
      · have hzr : z < 2 ^ cSize 3 := by have := cls_room hz; rw [hc] at this; exact this
        simp only [cSize, Nat.reducePow] at hzr
        have hc2 : y / 1048576 = 0 := by omega
        have b1 := hide (B.out.alloc B.out.size (.cells #[.int .u64 14, .int .i64 4, .int .i64 20] 145))
        have XX := X.out.kept (Below.refl wr.heap.size wr |>.alloc (Nat.le_refl _) (.cells #[.int .u64 14, .int .i64 4, .int .i64 20] 145)) X.out.lt
        have X2 := hide (XX.set (.int .u64 14) (.int .i64 4) (.int .i64 20))
        have b2 := hide (below_set3 b1.out (Nat.le_refl _) (.int .u64 14) (.int .i64 4) (.int .i64 20))
        have p7 := XX.o1
        have p8 := XX.o2
        obtain ⟨p0, p1, p2, p3, p4, p5, p6⟩ := XX
        have o0 := X2.out.c0
        have o1 := X2.out.c1
        have o2 := X2.out.c2
        have hcv : Hid (clsV (cls z) = .agg #[.int .u64 14, .int .i64 4, .int .i64 20]) := by rw [hc]; rfl
        replace hyy := hide hyy
        replace hc := hide hc
        go_wp2_with fail
        refine bodyPost_ret (v := .agg #[.int .u64 14, .int .i64 4, .int .i64 20]) (by simp [results, Tryz.f89, go_sem, o0, o1, o2]) rfl ?_
        exact ⟨by rw [hcv.out], b2.out⟩
      · have hzr : ¬ z < 2 ^ cSize 3 := fun h => by have := cls_least h (by omega); omega
        simp only [cSize, Nat.reducePow] at hzr
        have hc2 : ¬ y / 1048576 = 0 := by omega
        have b1 := hide (B.out.alloc B.out.size (.cells #[.int .u64 14, .int .i64 4, .int .i64 20] 145))
        have X1 := hide (X.out.kept (Below.refl wr.heap.size wr |>.alloc (Nat.le_refl _) (.cells #[.int .u64 14, .int .i64 4, .int .i64 20] 145)) X.out.lt)
        have hk5 : 4 ≤ cls z := by omega
        replace hyy := hide hyy
        clear hzr
        replace hc := hide hc
        replace hk := hide hk
        replace hk4 := hide hk4
        replace hk5 := hide hk5
        go_wp2_with fail
        go_roundw
        case rel => exact ⟨4, hk5.out, by go_num, X1, b1⟩
        case measure => simp [intOf]
    · simp only [show ((4 : Nat) : Int) = 4 from rfl]
      have hix := index4
      have hc : cls z = 4 := by omega
      have hc2 : y / 281474976710656 = 0 := by omega
      have b1 := hide (B.out.alloc B.out.size (.cells #[.int .u64 15, .int .i64 4, .int .i64 48] 145))
      have XX := X.out.kept (Below.refl wr.heap.size wr |>.alloc (Nat.le_refl _) (.cells #[.int .u64 15, .int .i64 4, .int .i64 48] 145)) X.out.lt
      have X2 := hide (XX.set (.int .u64 15) (.int .i64 4) (.int .i64 48))
      have b2 := hide (below_set3 b1.out (Nat.le_refl _) (.int .u64 15) (.int .i64 4) (.int .i64 48))
      have p7 := XX.o1
      have p8 := XX.o2
      obtain ⟨p0, p1, p2, p3, p4, p5, p6⟩ := XX
      have o0 := X2.out.c0
      have o1 := X2.out.c1
      have o2 := X2.out.c2
      have hcv : Hid (clsV (cls z) = .agg #[.int .u64 15, .int .i64 4, .int .i64 48]) := by rw [hc]; rfl
      replace hyy := hide hyy
      replace hc := hide hc
      go_wp2_with fail
      refine bodyPost_ret (v := .agg #[.int .u64 15, .int .i64 4, .int .i64 48]) (by simp [results, Tryz.f89, go_sem, o0, o1, o2]) rfl ?_
      exact ⟨by rw [hcv.out], b2.out⟩
set_option linter.unusedSimpArgs false

theorem below_drewN {B : Nat} {w w' : World} (h : Below B w w') (k : Nat) : Below B w (w'.drewN k) := ⟨h.os, h.tape, h.output, h.size, h.block⟩
/-- A state as a value. -/
def stV (n l d : Nat) : Value := .agg #[.int .i64 (n : Int), .int .i64 (l : Int), .int .i64 (d : Int)]

theorem zero23 : (Tryz.prog.info? 60).map (·.zero) = some (some (.agg #[.int .i64 0, .int .i64 0, .int .i64 0])) := by kernel_rfl

set_option maxHeartbeats 1000000 in
theorem behind_any (n L D t : Nat) (w : World) (hs : OkS n L D) (ht : OkT n L (t : Int)) : Calls Tryz.prog 67 #[.agg #[.int .i64 (n : Int), .int .i64 (L : Int), .int .i64 (D : Int)], .int .i64 (t : Int)] w fun e w' => e = .returned (.agg #[.int .i64 ((n + 1 : Nat) : Int), .int .i64 (t : Int), .int .i64 ((dl n L t : Nat) : Int)]) ∧ Below w.heap.size w w' := by
  have B0 : Hid (Below w.heap.size w (w.alloc (.cells #[.int .i64 (n : Int), .int .i64 (L : Int), .int .i64 (D : Int)] 60))) := (Below.refl _ w).alloc (Nat.le_refl _) _
  have B1 := hide (B0.out.alloc B0.out.size (.cells #[.int .i64 0, .int .i64 0, .int .i64 0] 60))
  have XX := Box3.new (w.alloc (.cells #[.int .i64 (n : Int), .int .i64 (L : Int), .int .i64 (D : Int)] 60)) (.int .i64 0) (.int .i64 0) (.int .i64 0) 60
  simp only [World.size_alloc] at XX
  have hl := hs.l; have hd := hs.d; have hn := hs.n; have h1 := ht.le; have h2 := ht.up
  by_cases h0 : n = 0
  · subst h0
    have hdl : dl 0 L t = 0 := rfl
    rw [hdl]
    have X2 := hide (XX.set (.int .i64 1) (.int .i64 (t : Int)) (.int .i64 0))
    have b2 := hide (below_set3 (g := w.heap.size + 1) B1.out (by omega) (.int .i64 1) (.int .i64 (t : Int)) (.int .i64 0))
    have p7 := XX.o1
    have p8 := XX.o2
    obtain ⟨p0, p1, p2, p3, p4, p5, p6⟩ := XX
    have o0 := X2.out.c0
    have o1 := X2.out.c1
    have o2 := X2.out.c2
    simp only [show ((0 : Nat) : Int) = 0 from rfl] at *
    go_enter Tryz.func67, Tryz.ntmps67
    go_wp2_with fail
    refine bodyPost_ret (v := .agg #[.int .i64 1, .int .i64 (t : Int), .int .i64 0]) (by simp [results, Tryz.f67, go_sem, o0, o1, o2]) rfl ?_
    exact ⟨rfl, B0.out.alloc B0.out.size _⟩
  · have hdl : dl n L t = t - L := by unfold dl; rw [if_neg h0]
    obtain ⟨q, hq⟩ : ∃ q, t - L = q := ⟨_, rfl⟩
    rw [hdl, hq]
    have e1 : (t : Int) - (L : Int) = (q : Int) := by omega
    have i0 : ¬ (n : Int) = 0 := by omega
    have i1 : (n : Int) ≤ 4096 := by omega
    have i2 : (L : Int) ≤ 35184372088832 := by omega
    have i3 : (t : Int) ≤ 35184372088832 := by omega
    have X2 := hide (XX.set (.int .i64 ((n : Int) + 1)) (.int .i64 (t : Int)) (.int .i64 (q : Int)))
    have b2 := hide (below_set3 (g := w.heap.size + 1) B1.out (by omega) (.int .i64 ((n : Int) + 1)) (.int .i64 (t : Int)) (.int .i64 (q : Int)))
    have p7 := XX.o1
    have p8 := XX.o2
    obtain ⟨p0, p1, p2, p3, p4, p5, p6⟩ := XX
    have o0 := X2.out.c0
    have o1 := X2.out.c1
    have o2 := X2.out.c2
    clear hs ht hdl hq h2 hl hd h1
    go_enter Tryz.func67, Tryz.ntmps67
    go_wp2_with fail
    refine bodyPost_ret (v := .agg #[.int .i64 ((n : Int) + 1), .int .i64 (t : Int), .int .i64 (q : Int)]) (by simp [results, Tryz.f67, go_sem, o0, o1, o2]) rfl ?_
    exact ⟨rfl, B0.out.alloc B0.out.size _⟩

set_option maxHeartbeats 1000000 in
theorem coded_any (n L D t : Nat) (w : World) (hs : OkS n L D) (ht : OkT n L (t : Int)) (hT : TabS w) : Calls Tryz.prog 66 #[.agg #[.int .i64 (n : Int), .int .i64 (L : Int), .int .i64 (D : Int)], .int .i64 (t : Int)] w fun e w' => e = .returned (.tuple #[.int .u64 ((cdX n L D t : Nat) : Int), .int .i64 ((cdN n L D t : Nat) : Int)]) ∧ Below w.heap.size w w' := by
  have B0 : Hid (Below w.heap.size w (w.alloc (.cells #[.int .i64 (n : Int), .int .i64 (L : Int), .int .i64 (D : Int)] 60))) := (Below.refl _ w).alloc (Nat.le_refl _) _
  have hl := hs.l; have hd := hs.d; have hn := hs.n; have h1 := ht.le; have h2 := ht.up
  have i3 : (t : Int) ≤ 35184372088832 := by omega
  by_cases h0 : n = 0
  · subst h0
    have hx : cdX 0 L D t = t := rfl
    have hn : cdN 0 L D t = 46 := rfl
    rw [hx, hn]
    simp only [show ((0 : Nat) : Int) = 0 from rfl] at *
    clear hs ht h2
    go_enter Tryz.func66, Tryz.ntmps66
    go_wp2_with fail
    go_ret2
    exact ⟨rfl, B0.out⟩
  · have hzl := zz_lt hs (show t ≤ 35184372088832 by omega)
    have hx : cdX n L D t = cMark (cls (zz L D t)) * 2 ^ cSize (cls (zz L D t)) + zz L D t := by unfold cdX; rw [if_neg h0]
    have hn : cdN n L D t = cAhead (cls (zz L D t)) + cSize (cls (zz L D t)) := by unfold cdN; rw [if_neg h0]
    have F := hide (fun w => fold_any ((t : Int) - (L : Int) - (D : Int)) w (by omega) (by omega))
    have hzz : zigS ((t : Int) - (L : Int) - (D : Int)) = zz L D t := rfl
    rw [hzz] at F
    have C := hide (classOf_any (zz L D t) _ hzl (hT.kept B0.out hT.pos))
    have hro := cls_room hzl
    have hml := cMark_lt (cls (zz L D t))
    have hor := hide (or_num hml hro (by have := cAhead_le (cls (zz L D t)); have := cSize_le (cls (zz L D t)); omega))
    rw [hx, hn]
    unfold clsV at C
    have hs48 := cSize_le (cls (zz L D t))
    have ha4 := cAhead_le (cls (zz L D t))
    clear hml hro hzz hx hn
    generalize zz L D t = z at *
    generalize cMark (cls z) = m at *
    generalize cAhead (cls z) = a at *
    generalize cSize (cls z) = s at *
    generalize m * 2 ^ s + z = X at *
    have i0 : ¬ (n : Int) = 0 := by omega
    have i2 : (L : Int) ≤ 35184372088832 := by omega
    have i4 : (D : Int) ≤ 35184372088832 := by omega
    have i5 : (s : Int) ≤ 48 := by omega
    have i6 : (a : Int) ≤ 4 := by omega
    have hor2 := hor.out
    clear hs ht h2 hzl hl hd h1 hT hor
    go_enter Tryz.func66, Tryz.ntmps66
    go_wp2_with (first | (go_at_call 88; refine (F.out _).mono ?_; rintro e wq ⟨rfl, rfl⟩) | (go_at_call 89; refine C.out.mono ?_; rintro e w1 ⟨rfl, B1⟩))
    have B2 := hide ((B0.out.trans (B1.mono B0.out.size)).alloc (by have := B1.size; have := B0.out.size; omega) (.cells #[.int .u64 (m : Int), .int .i64 (a : Int), .int .i64 (s : Int)] 145))
    clear C F B1
    go_quiet (fail)
    go_wp2_with fail
    go_ret2
    exact ⟨rfl, below_drewN B2.out _⟩

end Go.Proofs.YtmjjedbdedemcaaGreatDoor
