/-
  The mathematics of bits: the number that bytes are, the number that is read at a place, and how pieces of numbers come together.
-/
import Derived.WalkKit
namespace Go.Proofs.YtmddkinecplooaaDoor
set_option linter.unusedVariables false

/-- The number that bytes are, the first one the highest. -/
def num (l : List Int) : Nat := l.foldl (fun a b => a * 256 + b.toNat) 0

theorem num_nil : num [] = 0 := rfl
theorem num_snoc (l : List Int) (b : Int) : num (l ++ [b]) = num l * 256 + b.toNat := by simp [num, List.foldl_append]

theorem snoc_ind {P : List Int → Prop} (h0 : P []) (h1 : ∀ l b, P l → P (l ++ [b])) : ∀ l, P l := by
  intro l
  have : ∀ n (l : List Int), l.length = n → P l := by
    intro n
    induction n with
    | zero => intro l h; obtain rfl := List.eq_nil_of_length_eq_zero h; exact h0
    | succ n ih =>
      intro l h
      rcases List.eq_nil_or_concat l with rfl | ⟨m, b, rfl⟩
      · simp at h
      · rw [List.concat_eq_append] at h ⊢
        exact h1 _ _ (ih m (by simpa using h))
  exact this _ l rfl

theorem num_lt (l : List Int) (h : ∀ x ∈ l, 0 ≤ x ∧ x ≤ 255) : num l < 256 ^ l.length := by
  revert h
  refine snoc_ind (P := fun l => (∀ x ∈ l, 0 ≤ x ∧ x ≤ 255) → num l < 256 ^ l.length) ?_ ?_ l
  · intro _; simp [num]
  · intro l b ih h
    have h1 := ih (fun x hx => h x (by simp [hx]))
    have h2 := h b (by simp)
    rw [num_snoc, List.length_append, List.length_singleton, Nat.pow_succ]
    omega

theorem num_inj (l : List Int) : ∀ m : List Int, l.length = m.length → (∀ x ∈ l, 0 ≤ x ∧ x ≤ 255) → (∀ x ∈ m, 0 ≤ x ∧ x ≤ 255) → num l = num m → l = m := by
  refine snoc_ind (P := fun l => ∀ m : List Int, l.length = m.length → (∀ x ∈ l, 0 ≤ x ∧ x ≤ 255) → (∀ x ∈ m, 0 ≤ x ∧ x ≤ 255) → num l = num m → l = m) ?_ ?_ l
  · intro m h _ _ _; exact (List.eq_nil_of_length_eq_zero h.symm).symm
  · intro l b ih m h hl hm he
    rcases List.eq_nil_or_concat m with rfl | ⟨m, c, rfl⟩
    · simp at h
    · rw [List.concat_eq_append] at h hm he ⊢
      have h2 := hl b (by simp)
      have h3 := hm c (by simp)
      rw [num_snoc, num_snoc] at he
      have e1 : num l = num m := by omega
      have e2 : b = c := by omega
      rw [ih m (by simpa using h) (fun x hx => hl x (by simp [hx])) (fun x hx => hm x (by simp [hx])) e1, e2]

theorem num_get (l : List Int) : ∀ j, j < l.length → (∀ x ∈ l, 0 ≤ x ∧ x ≤ 255) → (l.getD j 0).toNat = num l / 256 ^ (l.length - 1 - j) % 256 := by
  refine snoc_ind (P := fun l => ∀ j, j < l.length → (∀ x ∈ l, 0 ≤ x ∧ x ≤ 255) → (l.getD j 0).toNat = num l / 256 ^ (l.length - 1 - j) % 256) ?_ ?_ l
  · intro j h; simp at h
  · intro l b ih j h hl
    have h2 := hl b (by simp)
    rw [List.length_append, List.length_singleton] at h ⊢
    rw [num_snoc]
    by_cases hj : j = l.length
    · subst hj
      rw [show l.length + 1 - 1 - l.length = 0 by omega]
      simp [List.getD]
      omega
    · have := ih j (by omega) (fun x hx => hl x (by simp [hx]))
      rw [show l.length + 1 - 1 - j = (l.length - 1 - j) + 1 by omega, Nat.pow_succ, Nat.mul_comm (256 ^ (l.length - 1 - j)) 256, ← Nat.div_div_eq_div_mul, show (num l * 256 + b.toNat) / 256 = num l by omega, ← this]
      simp [List.getD, List.getElem?_append_left (show j < l.length by omega)]

theorem num_set (l : List Int) : ∀ j c, j < l.length → num (l.set j c) + (l.getD j 0).toNat * 256 ^ (l.length - 1 - j) = num l + c.toNat * 256 ^ (l.length - 1 - j) := by
  refine snoc_ind (P := fun l => ∀ j c, j < l.length → num (l.set j c) + (l.getD j 0).toNat * 256 ^ (l.length - 1 - j) = num l + c.toNat * 256 ^ (l.length - 1 - j)) ?_ ?_ l
  · intro j c h; simp at h
  · intro l b ih j c h
    rw [List.length_append, List.length_singleton] at h ⊢
    by_cases hj : j = l.length
    · subst hj
      rw [show l.length + 1 - 1 - l.length = 0 by omega]
      simp [List.getD, num_snoc]
      omega
    · have := ih j c (by omega)
      rw [List.set_append_left _ _ (by omega), num_snoc, num_snoc, show l.length + 1 - 1 - j = (l.length - 1 - j) + 1 by omega, Nat.pow_succ]
      have e : (l ++ [b]).getD j 0 = l.getD j 0 := by simp [List.getD, List.getElem?_append_left (show j < l.length by omega)]
      rw [e, ← Nat.mul_assoc, ← Nat.mul_assoc]
      omega

theorem pow256 (k : Nat) : 256 ^ k = 2 ^ (8 * k) := by rw [Nat.pow_mul]

theorem modsplit (m k s : Nat) : m % 2 ^ (k + s) = (m / 2 ^ s % 2 ^ k) * 2 ^ s + m % 2 ^ s := by
  rw [Nat.add_comm k s, Nat.pow_add, Nat.mod_mul, Nat.mul_comm, Nat.add_comm]

theorem or_add (a b s : Nat) (h : b < 2 ^ s) : a * 2 ^ s ||| b = a * 2 ^ s + b := by
  rw [Nat.mul_comm, Nat.two_pow_add_eq_or_of_lt h]

/-- The number that n bits from the place p on are, among the 8 N bits of V. -/
def rd (V N p n : Nat) : Nat := V / 2 ^ (8 * N - p - n) % 2 ^ n
theorem rd_lt (V N p n : Nat) : rd V N p n < 2 ^ n := Nat.mod_lt _ (Nat.two_pow_pos _)
theorem rd_zero (V N p : Nat) : rd V N p 0 = 0 := by simp [rd, Nat.mod_one]
theorem rd_more (V N p k s : Nat) (h : p + k + s ≤ 8 * N) : rd V N p (k + s) = rd V N p k * 2 ^ s + rd V N (p + k) s := by
  unfold rd
  rw [modsplit, Nat.div_div_eq_div_mul, ← Nat.pow_add, show 8 * N - p - (k + s) + s = 8 * N - p - k by omega, show 8 * N - p - (k + s) = 8 * N - (p + k) - s by omega]

/-- What a byte has of it. -/
theorem rd_byte (l : List Int) (hl : ∀ x ∈ l, 0 ≤ x ∧ x ≤ 255) (q s b : Nat) (hq : q < 8 * l.length) (hb : q % 8 + s + b = 8) :
    (l.getD (q / 8) 0).toNat / 2 ^ b % 2 ^ s = rd (num l) l.length q s := by
  rw [num_get l (q / 8) (by omega) hl, pow256]
  unfold rd
  rw [show (256 : Nat) = 2 ^ 8 by rfl, show 8 = (8 - b) + b by omega, modsplit, Nat.mul_comm, Nat.mul_add_div (Nat.two_pow_pos b), Nat.div_eq_of_lt (Nat.mod_lt _ (Nat.two_pow_pos b)), Nat.add_zero, show (8 - b) + b = 8 by omega]
  rw [Nat.div_div_eq_div_mul, ← Nat.pow_add, Nat.mod_mod_of_dvd _ (Nat.pow_dvd_pow 2 (by omega)), show 8 * (l.length - 1 - q / 8) + b = 8 * l.length - q - s by omega]

/-- Bytes that have n bits, which are the number A; the others are 0. -/
structure Holds (l : List Int) (A n : Nat) : Prop where
  bytes : ∀ x ∈ l, 0 ≤ x ∧ x ≤ 255
  lo : n ≤ 8 * l.length
  hi : 8 * l.length < n + 8
  num : num l = A * 2 ^ (8 * l.length - n)
  lt : A < 2 ^ n

theorem holds_nil : Holds [] 0 0 := ⟨by simp, by simp, by simp, by simp [num], by simp⟩
theorem Holds.same {l m : List Int} {A n : Nat} (h : Holds l A n) (k : Holds m A n) : l = m := by
  have h1 := h.lo; have h2 := h.hi; have h3 := k.lo; have h4 := k.hi
  have e : l.length = m.length := by omega
  exact num_inj l m e h.bytes k.bytes (by rw [h.num, k.num, e])
/-- A byte more. -/
theorem more_num {l : List Int} {A n : Nat} (h : Holds l A n) (hn : 8 * l.length = n) : Go.Proofs.YtmddkinecplooaaDoor.num (l ++ [0]) = A * 2 ^ (8 * (l ++ [0]).length - n) := by
  rw [num_snoc, h.num, List.length_append, List.length_singleton, show 8 * l.length - n = 0 by omega, show 8 * (l.length + 1) - n = 8 by omega]
  simp

/-- A piece is put into the last byte. -/
theorem piece_put {l : List Int} {A n x r s b : Nat} (hl : ∀ x ∈ l, 0 ≤ x ∧ x ≤ 255) (hA : A < 2 ^ n) (hnum : num l = A * 2 ^ (8 * l.length - n)) (hs1 : 1 ≤ s) (hN : 8 * l.length = n + s + b) (hr : n % 8 + s + b = 8) :
    ∃ c : Nat, c = (l.getD (n / 8) 0).toNat ||| ((x / 2 ^ r) % 2 ^ s * 2 ^ b) ∧ c ≤ 255 ∧ Holds (l.set (n / 8) (c : Int)) (A * 2 ^ s + (x / 2 ^ r) % 2 ^ s) (n + s) := by
  have hj : n / 8 = l.length - 1 := by omega
  have hy : (x / 2 ^ r) % 2 ^ s < 2 ^ s := Nat.mod_lt _ (Nat.two_pow_pos s)
  generalize (x / 2 ^ r) % 2 ^ s = y at hy ⊢
  have hsb : y * 2 ^ b < 2 ^ (s + b) := by rw [Nat.pow_add]; exact (Nat.mul_lt_mul_right (Nat.two_pow_pos b)).2 hy
  have hg := num_get l (n / 8) (by omega) hl
  rw [show l.length - 1 - n / 8 = 0 by omega, Nat.pow_zero, Nat.div_one, hnum, show 8 * l.length - n = s + b by omega] at hg
  have e8 : (256 : Nat) = 2 ^ (8 - (s + b)) * 2 ^ (s + b) := by rw [← Nat.pow_add, show 8 - (s + b) + (s + b) = 8 by omega]
  rw [e8, Nat.mul_mod_mul_right] at hg
  have hT : A % 2 ^ (8 - (s + b)) < 2 ^ (8 - (s + b)) := Nat.mod_lt _ (Nat.two_pow_pos _)
  generalize A % 2 ^ (8 - (s + b)) = T at hg hT
  refine ⟨_, rfl, ?_, ?_⟩
  · rw [hg, or_add _ _ _ hsb]
    have : T * 2 ^ (s + b) + y * 2 ^ b < 256 := by
      rw [e8]
      calc T * 2 ^ (s + b) + y * 2 ^ b < T * 2 ^ (s + b) + 2 ^ (s + b) := by omega
        _ = (T + 1) * 2 ^ (s + b) := by rw [Nat.add_mul, Nat.one_mul]
        _ ≤ 2 ^ (8 - (s + b)) * 2 ^ (s + b) := Nat.mul_le_mul_right _ hT
    omega
  · have hc : (l.getD (n / 8) 0).toNat ||| y * 2 ^ b = (l.getD (n / 8) 0).toNat + y * 2 ^ b := by rw [hg, or_add _ _ _ hsb]
    have hc1 : (l.getD (n / 8) 0).toNat + y * 2 ^ b < 256 := by
      rw [hg, e8]
      calc T * 2 ^ (s + b) + y * 2 ^ b < T * 2 ^ (s + b) + 2 ^ (s + b) := by omega
        _ = (T + 1) * 2 ^ (s + b) := by rw [Nat.add_mul, Nat.one_mul]
        _ ≤ 2 ^ (8 - (s + b)) * 2 ^ (s + b) := Nat.mul_le_mul_right _ hT
    rw [hc]
    have hs := num_set l (n / 8) (((l.getD (n / 8) 0).toNat + y * 2 ^ b : Nat) : Int) (by omega)
    rw [show l.length - 1 - n / 8 = 0 by omega, Nat.pow_zero, Nat.mul_one, Nat.mul_one, Int.toNat_natCast, hnum] at hs
    refine ⟨?_, ?_, ?_, ?_, ?_⟩
    · intro z hz
      rcases List.mem_or_eq_of_mem_set hz with h | h
      · exact hl z h
      · omega
    · rw [List.length_set]; omega
    · rw [List.length_set]; omega
    · rw [List.length_set, show 8 * l.length - (n + s) = b by omega]
      rw [show 8 * l.length - n = s + b by omega, Nat.pow_add, ← Nat.mul_assoc] at hs
      rw [Nat.add_mul]
      omega
    · rw [Nat.pow_add]
      calc A * 2 ^ s + y < A * 2 ^ s + 2 ^ s := by omega
        _ = (A + 1) * 2 ^ s := by rw [Nat.add_mul, Nat.one_mul]
        _ ≤ 2 ^ n * 2 ^ s := Nat.mul_le_mul_right _ hA

/-- How far a number has been put: r of its n bits are left. -/
def part (A x n r : Nat) : Nat := A * 2 ^ (n - r) + x / 2 ^ r % 2 ^ (n - r)
theorem part_all (A x n : Nat) : part A x n n = A := by simp [part, Nat.mod_one]
theorem part_none (A x n : Nat) : part A x n 0 = A * 2 ^ n + x % 2 ^ n := by simp [part]
theorem part_next (A x n r s : Nat) (h : r + s ≤ n) : part A x n (r + s) * 2 ^ s + x / 2 ^ r % 2 ^ s = part A x n r := by
  unfold part
  rw [show n - r = (n - (r + s)) + s by omega, modsplit (x / 2 ^ r), Nat.div_div_eq_div_mul, ← Nat.pow_add, Nat.pow_add 2 (n - (r + s)) s, Nat.add_mul, Nat.mul_assoc, Nat.add_assoc]

theorem rd_of_holds {A n p k N : Nat} (hn : n ≤ 8 * N) (h : p + k ≤ n) : rd (A * 2 ^ (8 * N - n)) N p k = A / 2 ^ (n - p - k) % 2 ^ k := by
  unfold rd
  rw [show 8 * N - p - k = (8 * N - n) + (n - p - k) by omega, Nat.pow_add, ← Nat.div_div_eq_div_mul, Nat.mul_div_cancel _ (Nat.two_pow_pos _)]
end Go.Proofs.YtmddkinecplooaaDoor
