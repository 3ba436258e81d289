/-
  Check sums: mathematics, step.
-/
import Derived.Test.YtmjjedbdedemcaaGreatDoorA
import Derived.Laws.BitsAllLaws
import Derived.Test.YtmjjedbdedemcaaGreatDoorChecked
import Derived.WalkKit
import Derived.WalkLawsBesides
import Derived.Laws.CopyOwn
import Derived.Laws.AppendOwnNone
namespace Go.Proofs.YtmjjedbdedemcaaGreatDoor
open Go.RowKit
set_option linter.unusedVariables false

/-- A register, one bit on. -/
def S (r : Nat) : Nat := r / 2 ^^^ (r % 2 * 2197175160)
/-- A register, k bits on. -/
def Sn : Nat → Nat → Nat
  | 0, r => r
  | k + 1, r => Sn k (S r)

theorem xor_swap (a b c d : Nat) : (a ^^^ b) ^^^ (c ^^^ d) = (a ^^^ c) ^^^ (b ^^^ d) := by
  rw [Nat.xor_assoc, Nat.xor_assoc, ← Nat.xor_assoc b c d, Nat.xor_comm b c, Nat.xor_assoc c b d]

theorem par_mul (a b c : Nat) : (a ^^^ b) % 2 * c = (a % 2 * c) ^^^ (b % 2 * c) := by
  have h := Nat.xor_mod_two_pow (a := a) (b := b) (n := 1)
  rw [Nat.pow_one] at h
  rw [h]
  rcases Nat.mod_two_eq_zero_or_one a with ha | ha <;> rcases Nat.mod_two_eq_zero_or_one b with hb | hb <;> rw [ha, hb] <;> simp

theorem S_xor (a b : Nat) : S (a ^^^ b) = S a ^^^ S b := by
  unfold S
  rw [Nat.xor_div_two, par_mul, xor_swap]

theorem S_zero : S 0 = 0 := by decide
theorem S_lt {r : Nat} (h : r < 4294967296) : S r < 4294967296 := by
  unfold S
  refine Nat.xor_lt_two_pow (n := 32) (by omega) ?_
  have : r % 2 < 2 := Nat.mod_lt _ (by decide)
  rcases Nat.mod_two_eq_zero_or_one r with h | h <;> rw [h] <;> decide
theorem S_even (r : Nat) : S (r * 2) = r := by
  unfold S
  rw [Nat.mul_div_cancel _ (by decide), Nat.mul_mod_left]
  simp

theorem Sn_xor (k a b : Nat) : Sn k (a ^^^ b) = Sn k a ^^^ Sn k b := by
  induction k generalizing a b with
  | zero => rfl
  | succ k ih => simp only [Sn]; rw [S_xor, ih]
theorem Sn_zero (k : Nat) : Sn k 0 = 0 := by
  induction k with
  | zero => rfl
  | succ k ih => simp only [Sn]; rw [S_zero, ih]
theorem Sn_lt (k : Nat) {r : Nat} (h : r < 4294967296) : Sn k r < 4294967296 := by
  induction k generalizing r with
  | zero => exact h
  | succ k ih => exact ih (S_lt h)
theorem Sn_succ (k r : Nat) : Sn (k + 1) r = S (Sn k r) := by
  induction k generalizing r with
  | zero => rfl
  | succ k ih => exact ih (S r)
theorem Sn_add (j k r : Nat) : Sn (j + k) r = Sn j (Sn k r) := by
  induction k generalizing r with
  | zero => rfl
  | succ k ih => exact ih (S r)
theorem Sn_even (k r : Nat) : Sn k (r * 2 ^ k) = r := by
  induction k generalizing r with
  | zero => simp [Sn]
  | succ k ih =>
    simp only [Sn]
    rw [show r * 2 ^ (k + 1) = (r * 2 ^ k) * 2 by rw [Nat.pow_succ, ← Nat.mul_assoc], S_even, ih]

theorem xor_split (k x : Nat) : x / 2 ^ k * 2 ^ k ^^^ x % 2 ^ k = x := by
  apply Nat.eq_of_testBit_eq
  intro i
  rw [Nat.testBit_xor, Nat.testBit_mul_two_pow, Nat.testBit_mod_two_pow, Nat.testBit_div_two_pow]
  by_cases h : i < k
  · simp [h, show ¬ k ≤ i by omega]
  · simp [h, show k ≤ i by omega, show i - k + k = i by omega]

theorem S_eq_zero {r : Nat} (h : r < 4294967296) (hs : S r = 0) : r = 0 := by
  unfold S at hs
  have e : r / 2 = r % 2 * 2197175160 := by
    have := congrArg (fun z => z ^^^ (r % 2 * 2197175160)) hs
    simpa [Nat.xor_assoc] using this
  rcases Nat.mod_two_eq_zero_or_one r with h2 | h2 <;> rw [h2] at e <;> omega
theorem Sn_eq_zero (k : Nat) {r : Nat} (h : r < 4294967296) (hs : Sn k r = 0) : r = 0 := by
  induction k generalizing r with
  | zero => exact hs
  | succ k ih => exact S_eq_zero h (ih (S_lt h) hs)

/-! ### Four bits on, by the table -/
def nib : List Nat := [0, 274646895, 549293790, 820201905, 1098587580, 1361435347, 1640403810, 1905808397, 2197175160, 2460548119, 2722870694, 2987750089, 3280807620, 3553878443, 3811616794, 4084100981]
theorem nib_ok : ∀ r, r < 16 → Sn 4 r = nib.getD r 0 := by decide +kernel
theorem step4 (x : Nat) : x / 16 ^^^ nib.getD (x % 16) 0 = Sn 4 x := by
  conv => rhs; rw [← xor_split 4 x]
  rw [Sn_xor, Sn_even, nib_ok _ (Nat.mod_lt _ (by decide))]
theorem nib_lt (r : Nat) : nib.getD r 0 < 4294967296 := by
  by_cases h : r < 16
  · rw [← nib_ok r h]; exact Sn_lt _ (by omega)
  · have e : nib[r]? = none := List.getElem?_eq_none (by simp [nib]; omega)
    rw [show nib.getD r 0 = 0 by simp [List.getD, e]]; decide

/-! ### Bytes -/
/-- The register behind the bytes l. -/
def reg : Nat → List Int → Nat
  | r, [] => r
  | r, x :: l => reg (Sn 8 (r ^^^ x.toNat)) l
/-- All bits turned. -/
def inv (r : Nat) : Nat := r ^^^ 4294967295
def more (s : Nat) (l : List Int) : Nat := inv (reg (inv s) l)

theorem inv_inv (r : Nat) : inv (inv r) = r := by unfold inv; rw [Nat.xor_assoc, Nat.xor_self, Nat.xor_zero]
theorem inv_lt {r : Nat} (h : r < 4294967296) : inv r < 4294967296 := Nat.xor_lt_two_pow (n := 32) h (by decide)
theorem inv_sub {r : Nat} (h : r < 4294967296) : inv r = 4294967295 - r := by
  unfold inv
  apply Nat.eq_of_testBit_eq
  intro i
  have h1 := Nat.testBit_two_pow_sub_succ (n := 32) (x := r) h i
  rw [show (2 : Nat) ^ 32 - (r + 1) = 4294967295 - r by omega] at h1
  rw [h1, Nat.testBit_xor, show (4294967295 : Nat) = 2 ^ 32 - 1 by decide, Nat.testBit_two_pow_sub_one]
  by_cases hi : i < 32
  · simp [hi]
  · have : r.testBit i = false := Nat.testBit_lt_two_pow (Nat.lt_of_lt_of_le h (by rw [show (4294967296 : Nat) = 2 ^ 32 by decide]; exact Nat.pow_le_pow_right (by decide) (by omega)))
    simp [hi, this]
theorem reg_snoc (r : Nat) (l : List Int) (x : Int) : reg r (l ++ [x]) = Sn 8 (reg r l ^^^ x.toNat) := by
  induction l generalizing r with
  | nil => rfl
  | cons y l ih => exact ih _
theorem reg_append (r : Nat) (l m : List Int) : reg r (l ++ m) = reg (reg r l) m := by
  induction l generalizing r with
  | nil => rfl
  | cons y l ih => exact ih _
theorem xor_byte_lt {r : Nat} {x : Int} (h : r < 4294967296) (hx : 0 ≤ x ∧ x ≤ 255) : r ^^^ x.toNat < 4294967296 := Nat.xor_lt_two_pow (n := 32) h (by omega)
theorem reg_lt {r : Nat} {l : List Int} (h : r < 4294967296) (hl : ∀ x ∈ l, 0 ≤ x ∧ x ≤ 255) : reg r l < 4294967296 := by
  induction l generalizing r with
  | nil => exact h
  | cons y l ih => exact ih (Sn_lt _ (xor_byte_lt h (hl y (by simp)))) (fun x hx => hl x (by simp [hx]))
theorem more_lt {s : Nat} {l : List Int} (h : s < 4294967296) (hl : ∀ x ∈ l, 0 ≤ x ∧ x ≤ 255) : more s l < 4294967296 := inv_lt (reg_lt (inv_lt h) hl)
/-- What is xored in ahead goes through the bytes by itself. -/
theorem reg_xor (r d : Nat) (l : List Int) : reg (r ^^^ d) l = reg r l ^^^ Sn (8 * l.length) d := by
  induction l generalizing r d with
  | nil => rfl
  | cons y l ih =>
    simp only [reg, List.length_cons]
    rw [show (r ^^^ d) ^^^ y.toNat = (r ^^^ y.toNat) ^^^ d by rw [Nat.xor_assoc, Nat.xor_comm d, ← Nat.xor_assoc], Sn_xor, ih]
    rw [show 8 * (l.length + 1) = 8 * l.length + 8 by omega, Sn_add]
theorem more_append (s : Nat) (l m : List Int) : more (more s l) m = more s (l ++ m) := by
  unfold more; rw [inv_inv, reg_append]
/-- Two sums joined. -/
theorem more_joined (l m : List Int) : Sn (8 * m.length) (more 0 l) ^^^ more 0 m = more 0 (l ++ m) := by
  rw [← more_append]
  generalize more 0 l = a
  unfold more
  rw [show inv a = inv 0 ^^^ a by unfold inv; rw [Nat.zero_xor, Nat.xor_comm], reg_xor]
  unfold inv
  rw [← Nat.xor_assoc, Nat.xor_comm (Sn _ _)]

/-! ### A bit turned -/
theorem reg_turn (r : Nat) (l : List Int) (q s : Nat) (hq : q < l.length) (hs : s < 8) :
    reg r (l.set q (((l.getD q 0).toNat ^^^ 2 ^ s : Nat) : Int)) = reg r l ^^^ Sn (8 * (l.length - q) - s) 1 := by
  induction l generalizing r q with
  | nil => simp at hq
  | cons y l ih =>
    cases q with
    | zero =>
      simp only [List.set_cons_zero, reg, List.length_cons, List.getD_cons_zero, Int.toNat_natCast]
      rw [← Nat.xor_assoc, Sn_xor, reg_xor, ← Sn_add]
      rw [show 8 * (l.length + 1 - 0) - s = (8 * l.length + 8 - s) by omega]
      congr 1
      rw [show 8 * l.length + 8 = (8 * l.length + 8 - s) + s by omega, Sn_add, show (2 : Nat) ^ s = 1 * 2 ^ s by omega, Sn_even]
      rw [show 8 * l.length + 8 - s + s - s = 8 * l.length + 8 - s by omega]
    | succ q =>
      simp only [List.set_cons_succ, reg, List.length_cons, List.getD_cons_succ]
      rw [ih _ q (by simpa using hq)]
      congr 2
      omega
/-- A number with one bit more, one bit at a time. -/
theorem low_bit (x k : Nat) : x % 2 ^ (k + 1) = x % 2 ^ k ^^^ (x / 2 ^ k % 2 * 2 ^ k) := by
  apply Nat.eq_of_testBit_eq
  intro i
  rw [Nat.testBit_xor, Nat.testBit_mod_two_pow, Nat.testBit_mod_two_pow, Nat.testBit_mul_two_pow]
  have e := Nat.testBit_mod_two_pow (x / 2 ^ k) 1 (i - k)
  rw [Nat.pow_one] at e
  rw [e, Nat.testBit_div_two_pow]
  rcases Nat.lt_trichotomy i k with h | h | h
  · simp [h, show i < k + 1 by omega, show ¬ k ≤ i by omega]
  · subst h; simp
  · simp [show ¬ i < k by omega, show ¬ i < k + 1 by omega, show k ≤ i by omega, show ¬ i - k < 1 by omega]
/-- The bits of x, k of them, turned from the place 'at' on: what that makes of the register. -/
theorem turn_step (m k x : Nat) (hk : k < 32) (hm : k ≤ m) : Sn m (x % 2 ^ (k + 1)) = Sn m (x % 2 ^ k) ^^^ (if x / 2 ^ k % 2 = 1 then Sn (m - k) 1 else 0) := by
  rw [low_bit, Sn_xor]
  congr 1
  split
  · rename_i h
    rw [h]
    conv => lhs; rw [show m = (m - k) + k by omega]
    rw [Sn_add, Sn_even]
  · rename_i h
    rw [show x / 2 ^ k % 2 = 0 by omega, Nat.zero_mul, Sn_zero]
theorem v32 {a b : Int} (h : a = b) : Value.int .u32 a = .int .u32 b := by rw [h]
theorem ret32 {a b : Int} (h : a = b) : Ending.returned (.int .u32 a) = .returned (.int .u32 b) := by rw [h]
theorem s_odd {y : Nat} (hy : y < 4294967296) (h : ((y : Int) % 2 == 1) = true) : bits .xor .u32 ((y : Int) / 2) 2197175160 = ((S y : Nat) : Int) := by
  have h1 : y % 2 = 1 := by have := beq_iff_eq.1 h; omega
  have := u32_xor_nat (y / 2) 2197175160 (by omega) (by omega)
  unfold S
  rw [h1, Nat.one_mul, ← this]
  rfl
theorem s_evn {y : Nat} (h : ((y : Int) % 2 == 1) = false) : (y : Int) / 2 = ((S y : Nat) : Int) := by
  have h1 : y % 2 = 0 := by have := beq_eq_false_iff_ne.1 h; omega
  unfold S
  rw [h1, Nat.zero_mul, Nat.xor_zero]
  omega
theorem sn_next {k x y : Nat} (hk : k < 8) (h : Sn (8 - k) y = Sn 8 x) : Sn (8 - (k + 1)) (S y) = Sn 8 x := by
  rw [show 8 - k = (8 - (k + 1)) + 1 by omega] at h
  exact h

set_option maxHeartbeats 1000000 in
theorem rstep_any (x : Nat) (w : World) (hx : x < 4294967296) :
    Calls Tryz.prog 81 #[.int .u32 x] w fun e w' => e = .returned (.int .u32 (Sn 8 x : Nat)) ∧ w' = w := by
  go_enter Tryz.func81, Tryz.ntmps81
  go_wp2
  go_loop [0, 3] (fun r i => ∃ k y : Nat, k ≤ 8 ∧ i = .int .i64 k ∧ r = .int .u32 y ∧ y < 4294967296 ∧ Hid (Sn (8 - k) y = Sn 8 x)) (fun _ i => 8 - (intOf i).toNat)
  case atStart => exact ⟨0, x, by omega, rfl, rfl, hx, rfl⟩
  case round =>
    obtain ⟨k, y, hk, rfl, rfl, hy, hs⟩ := hrel
    go_wp2
    · have h1 : ((y : Int) % 2 == 1) = true := by assumption
      have h2 : (k : Int) < 8 := by assumption
      go_round
      case rel => exact ⟨k + 1, S y, by omega, by go_num, v32 (s_odd hy h1), S_lt hy, sn_next (by omega) hs.out⟩
      case measure => simp [intOf]; omega
    · have h1 : ((y : Int) % 2 == 1) = false := by assumption
      have h2 : (k : Int) < 8 := by assumption
      go_round
      case rel => exact ⟨k + 1, S y, by omega, by go_num, v32 (s_evn h1), S_lt hy, sn_next (by omega) hs.out⟩
      case measure => simp [intOf]; omega
    · have h2 : 8 ≤ (k : Int) := by assumption
      go_ret
      refine ⟨ret32 ?_, rfl⟩
      have := hs.out
      rw [show 8 - k = 0 by omega] at this
      rw [← this]; rfl

/-- The table of the program lies in memory as its text lays it. -/
def Tab (w : World) : Prop := ∀ i, i < 16 → w.cell? ⟨1, i, none⟩ = some (.int .u32 ((nib.getD i 0 : Nat) : Int))
theorem Tab.pos {w : World} (h : Tab w) : 1 < w.heap.size := World.block_lt_of_cell? w _ (h 0 (by decide))
theorem Tab.kept {w w' : World} {B : Nat} (h : Tab w) (hb : Below B w w') (hB : 1 < B) : Tab w' := fun i hi => (hb.cell (p := ⟨1, i, none⟩) hB).trans (h i hi)

theorem step_look (y : Nat) (w : World) (hy : y < 4294967296) (ht : Tab w) : ∃ q t : Nat, bits .and .u32 (y : Int) 15 = (q : Int) ∧ q < 16 ∧ w.cell? ⟨1, q, none⟩ = some (.int .u32 (t : Int)) ∧ Hid (bits .xor .u32 ((y : Int) / 16) (t : Int) = ((Sn 4 y : Nat) : Int)) := by
  refine ⟨y % 16, nib.getD (y % 16) 0, ?_, Nat.mod_lt _ (by decide), ht _ (Nat.mod_lt _ (by decide)), ?_⟩
  · have := u32_and_nat y 15 hy (by omega)
    rw [nat_mask4] at this
    exact this
  · have := u32_xor_nat (y / 16) (nib.getD (y % 16) 0) (by omega) (nib_lt _)
    rw [step4] at this
    exact this
theorem xor_in {x : Nat} {b : Int} (hx : x < 4294967296) (hb : 0 ≤ b ∧ b ≤ 255) : bits .xor .u32 (x : Int) b = ((x ^^^ b.toNat : Nat) : Int) := by
  have := u32_xor_nat x b.toNat hx (by omega)
  rwa [Int.toNat_of_nonneg hb.1] at this
theorem sn_next4 {k z y : Nat} (hk : k < 2) (h : Sn (8 - 4 * k) y = z) : Sn (8 - 4 * (k + 1)) (Sn 4 y) = z := by
  rw [← Sn_add, show 8 - 4 * (k + 1) + 4 = 8 - 4 * k by omega]
  exact h

set_option maxHeartbeats 1000000 in
theorem step_any (x : Nat) (b : Int) (w : World) (hx : x < 4294967296) (hb : 0 ≤ b ∧ b ≤ 255) (ht : Tab w) :
    Calls Tryz.prog 105 #[.int .u32 x, .int .u8 b] w fun e w' => e = .returned (.int .u32 (Sn 8 (x ^^^ b.toNat) : Nat)) ∧ w' = w := by
  have ht := hide ht
  have hb := hide hb
  go_enter Tryz.func105, Tryz.ntmps105
  have hb0 : 0 ≤ b := hb.out.1
  have hb1 : b ≤ 255 := hb.out.2
  go_wp2
  go_loop [0, 9] (fun r i => ∃ k y : Nat, k ≤ 2 ∧ i = .int .i64 k ∧ r = .int .u32 y ∧ y < 4294967296 ∧ Hid (Sn (8 - 4 * k) y = Sn 8 (x ^^^ b.toNat))) (fun _ i => 2 - (intOf i).toNat)
  case atStart => exact ⟨0, x ^^^ b.toNat, by omega, rfl, v32 (xor_in hx hb.out), xor_byte_lt hx hb.out, rfl⟩
  case round =>
    obtain ⟨k, y, hk, rfl, rfl, hy, hs⟩ := hrel
    obtain ⟨q, t, ha, hq, hc, hn⟩ := step_look y w hy ht.out
    have ha2 : bits .and .u32 (y : Int) 15 < 16 := by rw [ha]; omega
    have ha3 : 0 ≤ bits .and .u32 (y : Int) 15 := by rw [ha]; omega
    go_wp2
    · have h2 : (k : Int) < 2 := by assumption
      go_round
      case rel => exact ⟨k + 1, Sn 4 y, by omega, by go_num, v32 hn.out, Sn_lt 4 hy, sn_next4 (by omega) hs.out⟩
      case measure => simp [intOf]; omega
    · have h2 : 2 ≤ (k : Int) := by assumption
      go_ret
      refine ⟨ret32 ?_, rfl⟩
      have := hs.out
      rw [show 8 - 4 * k = 0 by omega] at this
      rw [← this]; rfl
theorem wf_u64C {a : Int} (w0 : (Lit.int .u64 a).wf = true) : 0 ≤ a ∧ a < 18446744073709551616 := by simp [Lit.wf, IntKind.min, IntKind.max, IntKind.signed, IntKind.bits] at w0; omega
theorem wf_i64C {a : Int} (w0 : (Lit.int .i64 a).wf = true) : -9223372036854775808 ≤ a ∧ a ≤ 9223372036854775807 := by simp [Lit.wf, IntKind.min, IntKind.max, IntKind.signed, IntKind.bits] at w0; omega
theorem wf_u32 {a : Int} (w0 : (Lit.int .u32 a).wf = true) : 0 ≤ a ∧ a < 4294967296 := by simp [Lit.wf, IntKind.min, IntKind.max, IntKind.signed, IntKind.bits] at w0; omega

end Go.Proofs.YtmjjedbdedemcaaGreatDoor
