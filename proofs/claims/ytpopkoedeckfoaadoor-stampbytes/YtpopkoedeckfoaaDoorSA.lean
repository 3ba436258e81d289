/-
  The mathematics of times: classes, what is written of a time, what is read.
-/
import Derived.Test.YtpopkoedeckfoaaDoorNum
namespace Go.Proofs.YtpopkoedeckfoaaDoor
set_option linter.unusedVariables false

def cAhead : Nat → Nat | 0 => 1 | 1 => 2 | 2 => 3 | _ => 4
def cSize : Nat → Nat | 0 => 0 | 1 => 7 | 2 => 12 | 3 => 20 | _ => 48
def cMark : Nat → Nat | 0 => 0 | 1 => 2 | 2 => 6 | 3 => 14 | _ => 15
/-- The class of a number. -/
def cls (z : Nat) : Nat := if z = 0 then 0 else if z < 128 then 1 else if z < 4096 then 2 else if z < 1048576 then 3 else 4
theorem cls_le (z : Nat) : cls z ≤ 4 := by unfold cls; split <;> (try split) <;> (try split) <;> (try split) <;> omega
theorem cls_room {z : Nat} (h : z < 281474976710656) : z < 2 ^ cSize (cls z) := by
  unfold cls; split <;> (try split) <;> (try split) <;> (try split) <;> simp [cSize] <;> omega
theorem cls_least {z i : Nat} (h : z < 2 ^ cSize i) (hi : i ≤ 4) : cls z ≤ i := by
  have : i = 0 ∨ i = 1 ∨ i = 2 ∨ i = 3 ∨ i = 4 := by omega
  unfold cls
  rcases this with rfl | rfl | rfl | rfl | rfl <;> simp [cSize] at h <;> split <;> (try split) <;> (try split) <;> (try split) <;> omega
theorem cSize_le (c : Nat) : cSize c ≤ 48 := by unfold cSize; split <;> omega
theorem cAhead_le (c : Nat) : cAhead c ≤ 4 := by unfold cAhead; split <;> omega
theorem cAhead_pos (c : Nat) : 1 ≤ cAhead c := by unfold cAhead; split <;> omega
theorem cMark_lt (c : Nat) : cMark c < 2 ^ cAhead c := by unfold cAhead cMark; split <;> simp
theorem five {i : Nat} (h : i ≤ 4) : i = 0 ∨ i = 1 ∨ i = 2 ∨ i = 3 ∨ i = 4 := by omega

def zig (d : Int) : Nat := if 0 ≤ d then (2 * d).toNat else (-2 * d - 1).toNat
def zag (z : Nat) : Int := if z % 2 = 0 then ((z / 2 : Nat) : Int) else -((z / 2 : Nat) : Int) - 1
theorem zag_zig (d : Int) : zag (zig d) = d := by unfold zag zig; split <;> split <;> omega
theorem zig_zag (z : Nat) : zig (zag z) = z := by unfold zag zig; split <;> split <;> omega

/-- What is written of a time, and how many bits. -/
def zz (L D t : Nat) : Nat := zig ((t : Int) - (L : Int) - (D : Int))
def cdX (n L D t : Nat) : Nat := if n = 0 then t else cMark (cls (zz L D t)) * 2 ^ cSize (cls (zz L D t)) + zz L D t
def cdN (n L D t : Nat) : Nat := if n = 0 then 46 else cAhead (cls (zz L D t)) + cSize (cls (zz L D t))
/-- The difference behind it. -/
def dl (n L t : Nat) : Nat := if n = 0 then 0 else t - L
structure OkS (n L D : Nat) : Prop where
  n : n ≤ 4096
  l : L ≤ 35184372088832
  d : D ≤ 35184372088832
structure OkT (n L : Nat) (t : Int) : Prop where
  ge : 0 ≤ t
  le : t ≤ 35184372088832
  up : n = 0 ∨ (L : Int) < t
instance (n L : Nat) (t : Int) : Decidable (OkT n L t) := decidable_of_iff (0 ≤ t ∧ t ≤ 35184372088832 ∧ (n = 0 ∨ (L : Int) < t)) ⟨fun h => ⟨h.1, h.2.1, h.2.2⟩, fun h => ⟨h.ge, h.le, h.up⟩⟩
instance (n L D : Nat) : Decidable (OkS n L D) := decidable_of_iff (n ≤ 4096 ∧ L ≤ 35184372088832 ∧ D ≤ 35184372088832) ⟨fun h => ⟨h.1, h.2.1, h.2.2⟩, fun h => ⟨h.n, h.l, h.d⟩⟩
theorem zz_lt {n L D t : Nat} (hs : OkS n L D) (ht : t ≤ 35184372088832) : zz L D t < 281474976710656 := by
  have := hs.l; have := hs.d; unfold zz zig; split <;> omega
theorem cdN_le (n L D t : Nat) : cdN n L D t ≤ 52 := by
  unfold cdN; split
  · omega
  · have := cAhead_le (cls (zz L D t)); have := cSize_le (cls (zz L D t)); omega
theorem cdN_pos (n L D t : Nat) : 1 ≤ cdN n L D t := by
  unfold cdN; split
  · omega
  · have := cAhead_pos (cls (zz L D t)); omega
theorem code_lt {m z k s : Nat} (hm : m < 2 ^ k) (hz : z < 2 ^ s) : m * 2 ^ s + z < 2 ^ (k + s) := by
  rw [Nat.pow_add]
  calc m * 2 ^ s + z < m * 2 ^ s + 2 ^ s := by omega
    _ = (m + 1) * 2 ^ s := by rw [Nat.add_mul, Nat.one_mul]
    _ ≤ 2 ^ k * 2 ^ s := Nat.mul_le_mul_right _ hm
theorem cdX_lt {n L D t : Nat} (hs : OkS n L D) (ht : t ≤ 35184372088832) : cdX n L D t < 2 ^ cdN n L D t := by
  unfold cdX cdN; split
  · simp; omega
  · exact code_lt (cMark_lt _) (cls_room (zz_lt hs ht))
theorem cdX_64 {n L D t : Nat} (hs : OkS n L D) (ht : t ≤ 35184372088832) : cdX n L D t < 18446744073709551616 := by
  have h1 := cdX_lt hs ht
  have h2 : 2 ^ cdN n L D t ≤ 2 ^ 52 := Nat.pow_le_pow_right (by decide) (cdN_le n L D t)
  omega
theorem ok_next {n L D : Nat} {t : Nat} (hs : OkS n L D) (ht : OkT n L (t : Int)) (hn : n < 4096) : OkS (n + 1) t (dl n L t) := by
  have := ht.le; have := hs.l
  refine ⟨by omega, by omega, ?_⟩
  unfold dl; split <;> omega

/-- The class that is read at p, i ones behind us. -/
def rcs (V N p i : Nat) : Option Nat := if 4 ≤ i then some 4 else if 8 * N < p + i + 1 then none else if rd V N (p + i) 1 = 0 then some i else rcs V N p (i + 1)
termination_by 4 - i
theorem rcs_four (V N p : Nat) : rcs V N p 4 = some 4 := by rw [rcs]; simp
theorem rcs_none {V N p i : Nat} (h : i < 4) (hb : 8 * N < p + i + 1) : rcs V N p i = none := by rw [rcs, if_neg (by omega), if_pos hb]
theorem rcs_zero {V N p i : Nat} (h : i < 4) (hb : p + i + 1 ≤ 8 * N) (hz : rd V N (p + i) 1 = 0) : rcs V N p i = some i := by rw [rcs, if_neg (by omega), if_neg (by omega), if_pos hz]
theorem rcs_one {V N p i : Nat} (h : i < 4) (hb : p + i + 1 ≤ 8 * N) (hz : rd V N (p + i) 1 ≠ 0) : rcs V N p i = rcs V N p (i + 1) := by rw [rcs, if_neg (by omega), if_neg (by omega), if_neg hz]

theorem bit_lt (V N p : Nat) : rd V N p 1 < 2 := rd_lt V N p 1
theorem rd_two {V N p : Nat} (h : p + 2 ≤ 8 * N) : rd V N p 2 = rd V N p 1 * 2 + rd V N (p + 1) 1 := rd_more V N p 1 1 h
theorem rd_three {V N p : Nat} (h : p + 3 ≤ 8 * N) : rd V N p 3 = (rd V N p 1 * 2 + rd V N (p + 1) 1) * 2 + rd V N (p + 2) 1 := by
  rw [show rd V N p 3 = rd V N p 2 * 2 + rd V N (p + 2) 1 from rd_more V N p 2 1 h, rd_two (by omega)]
theorem rd_four {V N p : Nat} (h : p + 4 ≤ 8 * N) : rd V N p 4 = ((rd V N p 1 * 2 + rd V N (p + 1) 1) * 2 + rd V N (p + 2) 1) * 2 + rd V N (p + 3) 1 := by
  rw [show rd V N p 4 = rd V N p 3 * 2 + rd V N (p + 3) 1 from rd_more V N p 3 1 h, rd_three (by omega)]

theorem step0 {V N p : Nat} (hb : p + 1 ≤ 8 * N) (h : rd V N p 1 ≠ 0) : rcs V N p 0 = rcs V N p 1 := rcs_one (by omega) hb h
theorem step1 {V N p : Nat} (hb : p + 2 ≤ 8 * N) (h : rd V N (p + 1) 1 ≠ 0) : rcs V N p 1 = rcs V N p 2 := rcs_one (by omega) hb h
theorem step2 {V N p : Nat} (hb : p + 3 ≤ 8 * N) (h : rd V N (p + 2) 1 ≠ 0) : rcs V N p 2 = rcs V N p 3 := rcs_one (by omega) hb h
theorem step3 {V N p : Nat} (hb : p + 4 ≤ 8 * N) (h : rd V N (p + 3) 1 ≠ 0) : rcs V N p 3 = rcs V N p 4 := rcs_one (by omega) hb h
/-- What class is read, told by the bits. -/
theorem rcs_of {V N p c : Nat} (hc : c ≤ 4) (hp : p + cAhead c ≤ 8 * N) (h : rd V N p (cAhead c) = cMark c) : rcs V N p 0 = some c := by
  have b0 := bit_lt V N p; have b1 := bit_lt V N (p + 1); have b2 := bit_lt V N (p + 2); have b3 := bit_lt V N (p + 3)
  rcases five hc with rfl | rfl | rfl | rfl | rfl <;> simp only [cAhead, cMark] at hp h
  · exact rcs_zero (by omega) (by omega) h
  · rw [rd_two (by omega)] at h
    exact (step0 (by omega) (by omega)).trans (rcs_zero (by omega) (by omega) (by omega))
  · rw [rd_three (by omega)] at h
    exact (step0 (by omega) (by omega)).trans ((step1 (by omega) (by omega)).trans (rcs_zero (by omega) (by omega) (by omega)))
  · rw [rd_four (by omega)] at h
    exact (step0 (by omega) (by omega)).trans ((step1 (by omega) (by omega)).trans ((step2 (by omega) (by omega)).trans (rcs_zero (by omega) (by omega) (by omega))))
  · rw [rd_four (by omega)] at h
    exact (step0 (by omega) (by omega)).trans ((step1 (by omega) (by omega)).trans ((step2 (by omega) (by omega)).trans ((step3 (by omega) (by omega)).trans (rcs_four _ _ _))))
theorem rcs_says {V N p c : Nat} (h : rcs V N p 0 = some c) : c ≤ 4 ∧ p + cAhead c ≤ 8 * N ∧ rd V N p (cAhead c) = cMark c := by
  have b0 := bit_lt V N p; have b1 := bit_lt V N (p + 1); have b2 := bit_lt V N (p + 2); have b3 := bit_lt V N (p + 3)
  by_cases h1 : 8 * N < p + 0 + 1
  · rw [rcs_none (by omega) h1] at h; cases h
  by_cases z1 : rd V N (p + 0) 1 = 0
  · rw [rcs_zero (by omega) (by omega) z1] at h; cases h
    exact ⟨by omega, by simp only [cAhead]; omega, z1⟩
  rw [rcs_one (by omega) (by omega) z1] at h
  by_cases h2 : 8 * N < p + 1 + 1
  · rw [rcs_none (by omega) h2] at h; cases h
  by_cases z2 : rd V N (p + 1) 1 = 0
  · rw [rcs_zero (by omega) (by omega) z2] at h; cases h
    exact ⟨by omega, by simp only [cAhead]; omega, by simp only [cAhead, cMark]; rw [rd_two (by omega)]; simp at z1; omega⟩
  rw [rcs_one (by omega) (by omega) z2] at h
  by_cases h3 : 8 * N < p + 2 + 1
  · rw [rcs_none (by omega) h3] at h; cases h
  by_cases z3 : rd V N (p + 2) 1 = 0
  · rw [rcs_zero (by omega) (by omega) z3] at h; cases h
    exact ⟨by omega, by simp only [cAhead]; omega, by simp only [cAhead, cMark]; rw [rd_three (by omega)]; simp at z1; omega⟩
  rw [rcs_one (by omega) (by omega) z3] at h
  by_cases h4 : 8 * N < p + 3 + 1
  · rw [rcs_none (by omega) h4] at h; cases h
  by_cases z4 : rd V N (p + 3) 1 = 0
  · rw [rcs_zero (by omega) (by omega) z4] at h; cases h
    exact ⟨by omega, by simp only [cAhead]; omega, by simp only [cAhead, cMark]; rw [rd_four (by omega)]; simp at z1; omega⟩
  rw [rcs_one (by omega) (by omega) z4, rcs_four] at h; cases h
  exact ⟨by omega, by simp only [cAhead]; omega, by simp only [cAhead, cMark]; rw [rd_four (by omega)]; simp at z1; omega⟩

/-- What is read behind a class: the error, the time. -/
def gtc (L D V N p c : Nat) : Nat × Nat × Nat :=
  if 8 * N < p + cAhead c + cSize c then (50, 0, 0) else
  if cls (rd V N (p + cAhead c) (cSize c)) ≠ c then (60, 0, 0) else
  if (L : Int) < (L : Int) + (D : Int) + zag (rd V N (p + cAhead c) (cSize c)) ∧ (L : Int) + (D : Int) + zag (rd V N (p + cAhead c) (cSize c)) ≤ 35184372088832 then (0, ((L : Int) + (D : Int) + zag (rd V N (p + cAhead c) (cSize c))).toNat, cAhead c + cSize c) else (60, 0, 0)
/-- What is read at p: the error, the time, how many bits. -/
def gtm (n L D V N p : Nat) : Nat × Nat × Nat :=
  if n = 0 then (if 8 * N < p + 46 then (50, 0, 0) else if 35184372088832 < rd V N p 46 then (60, 0, 0) else (0, rd V N p 46, 46))
  else match rcs V N p 0 with | none => (50, 0, 0) | some c => gtc L D V N p c

theorem two_parts {a b c d s : Nat} (hb : b < 2 ^ s) (hd : d < 2 ^ s) (h : a * 2 ^ s + b = c * 2 ^ s + d) : a = c ∧ b = d := by
  have h1 : (a * 2 ^ s + b) / 2 ^ s = a := by rw [Nat.mul_comm, Nat.mul_add_div (Nat.two_pow_pos s), Nat.div_eq_of_lt hb, Nat.add_zero]
  have h2 : (c * 2 ^ s + d) / 2 ^ s = c := by rw [Nat.mul_comm, Nat.mul_add_div (Nat.two_pow_pos s), Nat.div_eq_of_lt hd, Nat.add_zero]
  have e : a = c := by rw [← h1, h, h2]
  subst e
  exact ⟨rfl, by omega⟩

theorem gtm_ok {n L D V N p t k : Nat} (h : gtm n L D V N p = (0, t, k)) : OkT n L (t : Int) ∧ k = cdN n L D t ∧ p + k ≤ 8 * N ∧ rd V N p k = cdX n L D t := by
  unfold gtm at h
  by_cases hn : n = 0
  · rw [if_pos hn] at h
    split at h
    · simp at h
    · split at h
      · simp at h
      · simp only [Prod.mk.injEq, true_and] at h
        obtain ⟨rfl, rfl⟩ := h
        exact ⟨⟨by omega, by omega, .inl hn⟩, by simp [cdN, hn], by omega, by simp [cdX, hn]⟩
  · rw [if_neg hn] at h
    cases hc : rcs V N p 0 with
    | none => rw [hc] at h; simp at h
    | some c =>
      obtain ⟨c1, c2, c3⟩ := rcs_says hc
      rw [hc] at h
      simp only [gtc] at h
      split at h
      · simp at h
      · split at h
        · simp at h
        · rename_i hcl
          split at h
          · rename_i hup
            simp only [Prod.mk.injEq, true_and] at h
            obtain ⟨h1, rfl⟩ := h
            have hz : zz L D t = rd V N (p + cAhead c) (cSize c) := by
              unfold zz
              rw [show (t : Int) - (L : Int) - (D : Int) = zag (rd V N (p + cAhead c) (cSize c)) by omega, zig_zag]
            have hcl2 : cls (zz L D t) = c := by rw [hz]; exact Classical.not_not.1 hcl
            refine ⟨⟨by omega, by omega, .inr (by omega)⟩, by simp [cdN, hn, hcl2], by omega, ?_⟩
            rw [rd_more _ _ _ _ _ (by omega), c3, cdX, if_neg hn, hcl2, hz]
          · simp at h
theorem gtm_of {n L D V N p t : Nat} (hs : OkS n L D) (ht : OkT n L (t : Int)) (hp : p + cdN n L D t ≤ 8 * N) (h : rd V N p (cdN n L D t) = cdX n L D t) : gtm n L D V N p = (0, t, cdN n L D t) := by
  unfold gtm
  by_cases hn : n = 0
  · rw [if_pos hn]
    simp only [cdN, hn, cdX, if_true] at hp h ⊢
    have := ht.le
    rw [if_neg (by omega), h, if_neg (by omega)]
  · rw [if_neg hn]
    simp only [cdN, cdX, if_neg hn] at hp h ⊢
    have hle := ht.le
    have hz := cls_room (zz_lt hs (show t ≤ 35184372088832 by omega))
    rw [rd_more _ _ _ _ _ (by omega)] at h
    obtain ⟨h1, h2⟩ := two_parts (rd_lt _ _ _ _) hz h
    rw [rcs_of (cls_le _) (by omega) h1]
    simp only [gtc]
    have hup : (L : Int) < (t : Int) := by rcases ht.up with h | h <;> omega
    have e : (L : Int) + (D : Int) + zag (zz L D t) = (t : Int) := by unfold zz; rw [zag_zig]; omega
    rw [if_neg (by omega), h2, if_neg (by simp), e, if_pos ⟨hup, hle⟩]
    simp
theorem gtm_err (n L D V N p : Nat) : (gtm n L D V N p).1 = 0 ∨ (gtm n L D V N p = (50, 0, 0)) ∨ (gtm n L D V N p = (60, 0, 0)) := by
  unfold gtm
  by_cases hn : n = 0
  · rw [if_pos hn]; split
    · simp
    · split <;> simp
  · rw [if_neg hn]
    cases hc : rcs V N p 0 with
    | none => simp
    | some c =>
      simp only [gtc]
      split
      · simp
      · split
        · simp
        · split <;> simp
end Go.Proofs.YtpopkoedeckfoaaDoor
