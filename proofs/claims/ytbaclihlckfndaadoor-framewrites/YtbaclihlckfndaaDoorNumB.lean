/-
  The numbers' side of joined sums: registers multiplied as polynomials, powers by squares, and maps of bits.
-/
import Derived.Test.YtbaclihlckfndaaDoorNum
namespace Go.Proofs.YtbaclihlckfndaaDoor
set_option linter.unusedVariables false

/-- The first k rounds of a product of x and y. -/
def Tm (x y : Nat) : Nat → Nat
  | 0 => 0
  | k + 1 => Tm x y k ^^^ (if x / 2 ^ (31 - k) % 2 = 1 then Sn k y else 0)
/-- The product. -/
def T (x y : Nat) : Nat := Tm x y 32

/-- A map that goes with xor and with the register's step. -/
structure Lin (f : Nat → Nat) : Prop where
  xor : ∀ a b, f (a ^^^ b) = f a ^^^ f b
  s : ∀ a, f (S a) = S (f a)
theorem Lin.zero {f : Nat → Nat} (h : Lin f) : f 0 = 0 := by
  have := h.xor 0 0
  rwa [Nat.xor_self, Nat.xor_self] at this
theorem Lin.sn {f : Nat → Nat} (h : Lin f) (k a : Nat) : f (Sn k a) = Sn k (f a) := by
  induction k generalizing a with
  | zero => rfl
  | succ k ih => simp only [Sn]; rw [ih, h.s]
theorem Lin.tm {f : Nat → Nat} (h : Lin f) (v y k : Nat) : f (Tm v y k) = Tm v (f y) k := by
  induction k with
  | zero => exact h.zero
  | succ k ih =>
    simp only [Tm]
    rw [h.xor, ih]
    congr 1
    split
    · exact h.sn k y
    · exact h.zero
theorem Lin.comp {f g : Nat → Nat} (hf : Lin f) (hg : Lin g) : Lin (fun v => f (g v)) := ⟨fun a b => by rw [hg.xor, hf.xor], fun a => by rw [hg.s, hf.s]⟩
theorem lin_sn (k : Nat) : Lin (Sn k) := ⟨Sn_xor k, fun a => by rw [← Sn_succ]; rfl⟩

theorem tm_lin (x k : Nat) : Lin (fun y => Tm x y k) := by
  induction k with
  | zero => exact ⟨fun a b => (Nat.xor_self 0).symm, fun a => S_zero.symm⟩
  | succ k ih =>
    refine ⟨fun a b => ?_, fun a => ?_⟩
    · show Tm x (a ^^^ b) k ^^^ _ = (Tm x a k ^^^ _) ^^^ (Tm x b k ^^^ _)
      rw [ih.xor, xor_swap (Tm x a k)]
      congr 1
      split
      · exact Sn_xor k a b
      · rfl
    · show Tm x (S a) k ^^^ _ = S (Tm x a k ^^^ _)
      rw [ih.s, S_xor]
      congr 1
      split
      · exact (lin_sn k).s a
      · exact S_zero.symm
theorem t_lin (x : Nat) : Lin (T x) := tm_lin x 32
theorem tm_lt (x : Nat) {y : Nat} (h : y < 4294967296) (k : Nat) : Tm x y k < 4294967296 := by
  induction k with
  | zero => exact Nat.zero_lt_succ _
  | succ k ih =>
    refine Nat.xor_lt_two_pow (n := 32) ih ?_
    split
    · exact Sn_lt k h
    · decide
theorem t_lt (x : Nat) {y : Nat} (h : y < 4294967296) : T x y < 4294967296 := tm_lt x h 32

theorem sn_one (k : Nat) (h : k ≤ 31) : Sn k 2147483648 = 2 ^ (31 - k) := by
  rw [show 2147483648 = 2 ^ (31 - k) * 2 ^ k by rw [← Nat.pow_add, show 31 - k + k = 31 by omega], Sn_even]
theorem high_bit (x m : Nat) : x / 2 ^ (m + 1) * 2 ^ (m + 1) ^^^ (x / 2 ^ m % 2 * 2 ^ m) = x / 2 ^ m * 2 ^ m := by
  have h := xor_split 1 (x / 2 ^ m)
  rw [Nat.pow_one] at h
  have h2 : (x / 2 ^ m / 2 * 2 ^^^ x / 2 ^ m % 2) * 2 ^ m = x / 2 ^ m * 2 ^ m := by rw [h]
  rw [← h2]
  apply Nat.eq_of_testBit_eq
  intro i
  rw [Nat.div_div_eq_div_mul, ← Nat.pow_succ, Nat.testBit_xor, Nat.testBit_mul_two_pow, Nat.testBit_mul_two_pow, Nat.testBit_mul_two_pow, Nat.testBit_xor]
  rw [show x / 2 ^ (m + 1) * 2 = x / 2 ^ (m + 1) * 2 ^ 1 by rw [Nat.pow_one], Nat.testBit_mul_two_pow]
  by_cases h1 : m ≤ i
  · simp only [h1, decide_true, Bool.true_and]
    congr 1
    by_cases h2 : m + 1 ≤ i
    · simp [h2, show 1 ≤ i - m by omega, show i - m - 1 = i - (m + 1) by omega]
    · simp [h2, show ¬ 1 ≤ i - m by omega]
  · simp [h1, show ¬ m + 1 ≤ i by omega]
theorem tm_one (x : Nat) (h : x < 4294967296) (k : Nat) (hk : k ≤ 32) : Tm x 2147483648 k = x / 2 ^ (32 - k) * 2 ^ (32 - k) := by
  induction k with
  | zero => show 0 = _; rw [Nat.div_eq_of_lt (show x < 2 ^ (32 - 0) from h), Nat.zero_mul]
  | succ k ih =>
    simp only [Tm]
    rw [ih (by omega), show 32 - k = (31 - k) + 1 by omega, show 32 - (k + 1) = 31 - k by omega, ← high_bit x (31 - k)]
    congr 1
    split
    · rename_i e; rw [e, sn_one k (by omega), Nat.one_mul]
    · rename_i e; rw [show x / 2 ^ (31 - k) % 2 = 0 by omega, Nat.zero_mul]
theorem t_one {x : Nat} (h : x < 4294967296) : T x 2147483648 = x := by
  unfold T
  rw [tm_one x h 32 (by omega)]
  simp
/-- A map that goes with both is a product. -/
theorem Lin.eq {f : Nat → Nat} (h : Lin f) {v : Nat} (hv : v < 4294967296) : f v = T v (f 2147483648) := by
  conv => lhs; rw [← t_one hv]
  exact h.tm v _ 32
theorem t_assoc (x : Nat) {y v : Nat} (hy : y < 4294967296) (hv : v < 4294967296) : T (T x y) v = T x (T y v) := by
  have h1 := ((t_lin x).comp (t_lin y)).eq hv
  have h2 := (t_lin (T x y)).eq hv
  rw [h2, h1, t_one hy, t_one (t_lt x hy)]
theorem t_octet (y : Nat) : T 8388608 y = Sn 8 y := by
  unfold T
  simp [Tm]

/-! ### Powers by squares -/
def iter (f : Nat → Nat) : Nat → Nat → Nat
  | 0, v => v
  | n + 1, v => iter f n (f v)
theorem iter_lt {f : Nat → Nat} (hf : ∀ v, v < 4294967296 → f v < 4294967296) (n : Nat) {v : Nat} (h : v < 4294967296) : iter f n v < 4294967296 := by
  induction n generalizing v with
  | zero => exact h
  | succ n ih => exact ih (hf v h)
theorem iter_two {f g : Nat → Nat} (hf : ∀ v, v < 4294967296 → f v < 4294967296) (hg : ∀ v, v < 4294967296 → g v = f (f v)) (n : Nat) {v : Nat} (h : v < 4294967296) : iter g n v = iter f (2 * n) v := by
  induction n generalizing v with
  | zero => rfl
  | succ n ih =>
    rw [show 2 * (n + 1) = 2 * n + 1 + 1 by omega]
    simp only [iter]
    rw [hg v h, ih (hf _ (hf v h))]
theorem iter_sn (n v : Nat) : iter (Sn 8) n v = Sn (8 * n) v := by
  induction n generalizing v with
  | zero => rfl
  | succ n ih => simp only [iter]; rw [ih, ← Sn_add, show 8 * n + 8 = 8 * (n + 1) by omega]
/-- out times x, rest times, is n bytes on. -/
structure Pow (n out x rest : Nat) : Prop where
  ho : out < 4294967296
  hx : x < 4294967296
  eq : ∀ v, v < 4294967296 → T out (iter (T x) rest v) = Sn (8 * n) v
theorem pow_start (n : Nat) : Pow n 2147483648 8388608 n := by
  refine ⟨by decide, by decide, fun v hv => ?_⟩
  have e : ∀ v, T 8388608 v = Sn 8 v := t_octet
  have h1 : iter (T 8388608) n v = Sn (8 * n) v := by
    rw [← iter_sn]
    have : T 8388608 = Sn 8 := funext e
    rw [this]
  rw [h1]
  have h2 := (t_lin 2147483648).eq (Sn_lt (8 * n) hv)
  rw [h2, t_one (by decide), t_one (Sn_lt _ hv)]
theorem Pow.square {n out x rest : Nat} (h : Pow n out x rest) (he : rest % 2 = 0) : Pow n out (T x x) (rest / 2) := by
  refine ⟨h.ho, t_lt x h.hx, fun v hv => ?_⟩
  rw [iter_two (f := T x) (fun v hv => t_lt x hv) (fun v hv => t_assoc x h.hx hv) _ hv, show 2 * (rest / 2) = rest by omega]
  exact h.eq v hv
theorem Pow.one {n out x rest : Nat} (h : Pow n out x (rest + 1)) : Pow n (T out x) x rest := by
  refine ⟨t_lt out h.hx, h.hx, fun v hv => ?_⟩
  have hw := iter_lt (f := T x) (fun v hv => t_lt x hv) rest hv
  rw [t_assoc out h.hx hw]
  have := h.eq v hv
  have comm : iter (T x) (rest + 1) v = T x (iter (T x) rest v) := by
    clear this h hw
    induction rest generalizing v with
    | zero => rfl
    | succ r ih => exact ih (T x v) (t_lt x hv)
  rwa [comm] at this
theorem Pow.odd {n out x rest : Nat} (h : Pow n out x rest) (he : rest % 2 = 1) : Pow n (T out x) (T x x) (rest / 2) := by
  have h1 : Pow n out x ((rest - 1) + 1) := by rwa [show rest - 1 + 1 = rest by omega]
  have h2 := h1.one.square (by omega)
  rwa [show (rest - 1) / 2 = rest / 2 by omega] at h2
theorem Pow.done {n out x : Nat} (h : Pow n out x 0) {v : Nat} (hv : v < 4294967296) : T out v = Sn (8 * n) v := h.eq v hv

/-! ### Maps of bits -/
/-- What the map f makes of the first k bits of r. -/
def Rt (f : Nat → Nat) (r : Nat) : Nat → Nat
  | 0 => 0
  | k + 1 => Rt f r k ^^^ (if r / 2 ^ k % 2 = 1 then f (2 ^ k) else 0)
structure Mat (f : Nat → Nat) : Prop where
  xor : ∀ a b, f (a ^^^ b) = f a ^^^ f b
  lt : ∀ a, a < 4294967296 → f a < 4294967296
theorem rt_eq {f : Nat → Nat} (h : Mat f) (r k : Nat) : Rt f r k = f (r % 2 ^ k) := by
  have hz : f 0 = 0 := by have := h.xor 0 0; rwa [Nat.xor_self, Nat.xor_self] at this
  induction k with
  | zero => simp [Rt, Nat.mod_one, hz]
  | succ k ih =>
    simp only [Rt]
    rw [ih, low_bit, h.xor]
    congr 1
    split
    · rename_i e; rw [e, Nat.one_mul]
    · rename_i e; rw [show r / 2 ^ k % 2 = 0 by omega, Nat.zero_mul, hz]
theorem rt_all {f : Nat → Nat} (h : Mat f) {r : Nat} (hr : r < 4294967296) : Rt f r 32 = f r := by
  rw [rt_eq h, Nat.mod_eq_of_lt hr]
theorem mat_sn (k : Nat) : Mat (Sn k) := ⟨Sn_xor k, fun a h => Sn_lt k h⟩
theorem mat_two {f : Nat → Nat} (h : Mat f) : Mat (fun v => f (f v)) := ⟨fun a b => by rw [h.xor, h.xor], fun a ha => h.lt _ (h.lt a ha)⟩
/-- a, gone rest times through f, is a0 gone n bytes on. -/
structure Goes (n a0 : Nat) (f : Nat → Nat) (a rest : Nat) : Prop where
  m : Mat f
  ha : a < 4294967296
  eq : iter f rest a = Sn (8 * n) a0
theorem goes_start (n : Nat) {a : Nat} (h : a < 4294967296) : Goes n a (Sn 8) a n := ⟨mat_sn 8, h, iter_sn n a⟩
theorem Goes.even {n a0 : Nat} {f : Nat → Nat} {a rest : Nat} (h : Goes n a0 f a rest) (he : rest % 2 = 0) : Goes n a0 (fun v => f (f v)) a (rest / 2) := by
  refine ⟨mat_two h.m, h.ha, ?_⟩
  rw [iter_two (f := f) h.m.lt (fun v _ => rfl) _ h.ha, show 2 * (rest / 2) = rest by omega]
  exact h.eq
theorem Goes.odd {n a0 : Nat} {f : Nat → Nat} {a rest : Nat} (h : Goes n a0 f a rest) (he : rest % 2 = 1) : Goes n a0 (fun v => f (f v)) (f a) (rest / 2) := by
  refine ⟨mat_two h.m, h.m.lt a h.ha, ?_⟩
  rw [iter_two (f := f) h.m.lt (fun v _ => rfl) _ (h.m.lt a h.ha)]
  have := h.eq
  rw [show rest = 2 * (rest / 2) + 1 by omega] at this
  exact this
end Go.Proofs.YtbaclihlckfndaaDoor
