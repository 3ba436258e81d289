/-
  Sets of numbers below 2048, as 32 words: mathematics, and how they lie in memory.
-/
import Derived.Test.YtkfdikpnnkbgaaaGreatDoorA
namespace Go.Proofs.YtkfdikpnnkbgaaaGreatDoor
open Go.RowKit
set_option linter.unusedVariables false
set_option linter.unusedSimpArgs false

theorem tz_spec (x : Nat) (h0 : 0 < x) (hx : x < 18446744073709551616) : ∃ m, x = 2 ^ tz x * (2 * m + 1) ∧ tz x < 64 := by
  have h : tz x = Lib.ctzFrom 64 x := by unfold tz Lib.ctz; rw [if_neg (by omega)]
  rw [h]
  exact Lib.ctzFrom_spec 64 x h0 hx
/-- The bits of a number that is 2^k times an odd one. -/
theorem odd_bit (k m j : Nat) : (2 ^ k * (2 * m + 1)).testBit j = if j < k then false else if j = k then true else m.testBit (j - k - 1) := by
  have h := Nat.testBit_two_pow_mul_add (2 * m + 1) (i := k) (b := 0) (Nat.two_pow_pos k) j
  rw [Nat.add_zero] at h
  rw [h]
  split
  · simp
  · rename_i hj
    split
    · rename_i e; subst e; simp [Nat.testBit_zero, Nat.add_mod]
    · rw [show j - k = (j - k - 1) + 1 by omega, Nat.testBit_succ, show (2 * m + 1) / 2 = m by omega]
      simp
theorem off_bit (k m j : Nat) : (2 ^ k * (2 * m + 1) - 1).testBit j = if j < k then true else if j = k then false else m.testBit (j - k - 1) := by
  have hp := Nat.two_pow_pos k
  have e : 2 ^ k * (2 * m + 1) - 1 = 2 ^ k * (2 * m) + (2 ^ k - 1) := by rw [Nat.mul_add, Nat.mul_one]; omega
  rw [e, Nat.testBit_two_pow_mul_add (2 * m) (by omega) j]
  split
  · rename_i h; simp [Nat.testBit_two_pow_sub_one, h]
  · rename_i hj
    split
    · rename_i e; subst e; simp [Nat.testBit_zero]
    · rw [show j - k = (j - k - 1) + 1 by omega, Nat.testBit_succ, show (2 * m) / 2 = m by omega]
      simp
/-- The lowest bit is taken off. -/
theorem low_off (x : Nat) (h0 : 0 < x) (hx : x < 18446744073709551616) (j : Nat) : (x &&& (x - 1)).testBit j = (x.testBit j && decide (tz x < j)) := by
  obtain ⟨m, hm, hk⟩ := tz_spec x h0 hx
  generalize tz x = k at *
  subst hm
  rw [Nat.testBit_and, odd_bit, off_bit]
  by_cases h1 : j < k
  · simp [h1]
  · by_cases h2 : j = k
    · simp [h1, h2]
    · have : k < j := by omega
      simp [h1, h2, this]
theorem tz_bit (x : Nat) (h0 : 0 < x) (hx : x < 18446744073709551616) : x.testBit (tz x) = true ∧ ∀ j, j < tz x → x.testBit j = false := by
  obtain ⟨m, hm, hk⟩ := tz_spec x h0 hx
  generalize tz x = k at *
  subst hm
  exact ⟨by rw [odd_bit]; simp, fun j hj => by rw [odd_bit]; simp [hj]⟩
theorem flt_none {p : Nat → Bool} {n : Nat} (h : ∀ j, j < n → p j = false) : (List.range n).filter p = [] := by
  rw [List.filter_eq_nil_iff]
  intro j hj
  simp [h j (List.mem_range.1 hj)]
theorem flt_first {p q : Nat → Bool} {k : Nat} (h1 : ∀ j, j < k → p j = false) (h2 : p k = true) (h3 : ∀ j, j ≤ k → q j = false) (h4 : ∀ j, k < j → p j = q j) : ∀ n, k < n → (List.range n).filter p = k :: (List.range n).filter q
  | 0, h => by omega
  | n + 1, h => by
    rw [List.range_succ, List.filter_append, List.filter_append]
    rcases Nat.lt_or_ge k n with hk | hk
    · rw [flt_first h1 h2 h3 h4 n hk]
      simp [List.filter_cons, h4 n hk]
    · obtain rfl : k = n := by omega
      rw [flt_none h1, flt_none (fun j hj => h3 j (by omega))]
      simp [h2, h3 k (Nat.le_refl _)]
/-- The bits of a word, rising. -/
def wl (x : Nat) : List Nat := (List.range 64).filter (x.testBit ·)
theorem wl_zero : wl 0 = [] := flt_none (fun j _ => by simp)
theorem wl_step (x : Nat) (h0 : 0 < x) (hx : x < 18446744073709551616) : wl x = tz x :: wl (x &&& (x - 1)) := by
  obtain ⟨m, hm, hk⟩ := tz_spec x h0 hx
  obtain ⟨b1, b2⟩ := tz_bit x h0 hx
  refine flt_first b2 b1 (fun j hj => ?_) (fun j hj => ?_) 64 hk
  · simp only [low_off x h0 hx]
    simp; omega
  · simp only [low_off x h0 hx]
    simp [hj]
theorem mem_wl (x n : Nat) : n ∈ wl x ↔ n < 64 ∧ x.testBit n = true := by simp [wl]

/-- 32 words. -/
structure OkW (W : List Nat) : Prop where
  len : W.length = 32
  lt : ∀ k, W.getD k 0 < 18446744073709551616
def inW (W : List Nat) (n : Nat) : Bool := (W.getD (n / 64) 0).testBit (n % 64)
def addW (W : List Nat) (n : Nat) : List Nat := W.set (n / 64) (W.getD (n / 64) 0 ||| 2 ^ (n % 64))
def noW : List Nat := List.replicate 32 0
theorem noW_get (k : Nat) : noW.getD k 0 = 0 := by
  unfold noW
  rw [List.getD_eq_getElem?_getD, List.getElem?_replicate]
  split <;> rfl
theorem OkW.no : OkW noW := ⟨by simp [noW], fun k => by rw [noW_get]; omega⟩
theorem inW_no (n : Nat) : inW noW n = false := by unfold inW; rw [noW_get]; simp
theorem setD (W : List Nat) (i v k : Nat) (h : i < W.length) : (W.set i v).getD k 0 = if k = i then v else W.getD k 0 := by
  rw [List.getD_eq_getElem?_getD, List.getElem?_set, List.getD_eq_getElem?_getD]
  by_cases e : i = k
  · subst e; simp [h]
  · rw [if_neg e, if_neg (fun h => e h.symm)]
theorem or_lt (x r : Nat) (hx : x < 18446744073709551616) (hr : r < 64) : x ||| 2 ^ r < 18446744073709551616 :=
  Nat.or_lt_two_pow (n := 64) hx (Nat.pow_lt_pow_right (by decide) hr)
theorem OkW.add {W : List Nat} (h : OkW W) {n : Nat} (hn : n < 2048) : OkW (addW W n) := ⟨by simp [addW, h.len], fun k => by
  unfold addW
  rw [setD W _ _ _ (by rw [h.len]; omega)]
  split
  · exact or_lt _ _ (h.lt _) (by omega)
  · exact h.lt k⟩
theorem inW_add {W : List Nat} (h : OkW W) {n : Nat} (hn : n < 2048) (m : Nat) : inW (addW W n) m = (decide (m = n) || inW W m) := by
  unfold inW addW
  rw [setD W _ _ _ (by rw [h.len]; omega)]
  by_cases e : m / 64 = n / 64
  · rw [if_pos e, Nat.testBit_or, Nat.testBit_two_pow, e]
    by_cases e2 : m = n
    · subst e2; simp
    · have : ¬ n % 64 = m % 64 := by omega
      simp [e2, this]
  · rw [if_neg e]
    have : ¬ m = n := fun h => e (by rw [h])
    simp [this]
/-- What add asks: is the bit off? -/
theorem and_off (x r : Nat) : (x &&& 2 ^ r = 0) ↔ x.testBit r = false := by
  constructor
  · intro h
    have := congrArg (fun z => z.testBit r) h
    simpa [Nat.testBit_and, Nat.testBit_two_pow_self] using this
  · intro h
    apply Nat.eq_of_testBit_eq
    intro j
    rw [Nat.testBit_and, Nat.testBit_two_pow]
    by_cases e : r = j
    · subst e; simp [h]
    · simp [e]
/-- The numbers from word k on, c words. -/
def fromN (W : List Nat) : Nat → Nat → List Nat
  | _, 0 => []
  | k, c + 1 => (wl (W.getD k 0)).map (fun j => k * 64 + j) ++ fromN W (k + 1) c
def mems (W : List Nat) : List Nat := fromN W 0 32
theorem mem_fromN (W : List Nat) (n : Nat) : ∀ c k, n ∈ fromN W k c ↔ k * 64 ≤ n ∧ n < (k + c) * 64 ∧ inW W n = true
  | 0, k => by simp [fromN]; omega
  | c + 1, k => by
    rw [fromN, List.mem_append, mem_fromN W n c (k + 1), List.mem_map]
    constructor
    · rintro (⟨j, hj, rfl⟩ | ⟨h1, h2, h3⟩)
      · rw [mem_wl] at hj
        refine ⟨by omega, by omega, ?_⟩
        unfold inW
        rw [show (k * 64 + j) / 64 = k by omega, show (k * 64 + j) % 64 = j by omega]
        exact hj.2
      · exact ⟨by omega, by omega, h3⟩
    · rintro ⟨h1, h2, h3⟩
      by_cases h : n < (k + 1) * 64
      · left
        refine ⟨n - k * 64, (mem_wl _ _).2 ⟨by omega, ?_⟩, by omega⟩
        unfold inW at h3
        rw [show n / 64 = k by omega, show n % 64 = n - k * 64 by omega] at h3
        exact h3
      · right
        exact ⟨by omega, by omega, h3⟩
theorem inW_lt {W : List Nat} (h : OkW W) {n : Nat} (hi : inW W n = true) : n < 2048 := by
  apply Classical.byContradiction
  intro hn
  unfold inW at hi
  rw [List.getD_eq_getElem?_getD, List.getElem?_eq_none (by rw [h.len]; omega)] at hi
  simp at hi
theorem mem_mems {W : List Nat} (h : OkW W) (n : Nat) : n ∈ mems W ↔ inW W n = true := by
  unfold mems
  rw [mem_fromN]
  exact ⟨fun h => h.2.2, fun hi => ⟨by omega, by have := inW_lt h hi; omega, hi⟩⟩
theorem mems_none {W : List Nat} (h : OkW W) : (∀ n, inW W n = false) ↔ W = noW := by
  constructor
  · intro hi
    apply List.ext_getElem?
    intro k
    by_cases hk : k < 32
    · have h0 : W.getD k 0 = 0 := by
        apply Nat.eq_of_testBit_eq
        intro j
        by_cases hj : j < 64
        · have := hi (k * 64 + j)
          unfold inW at this
          rw [show (k * 64 + j) / 64 = k by omega, show (k * 64 + j) % 64 = j by omega] at this
          simpa using this
        · rw [Nat.testBit_lt_two_pow (Nat.lt_of_lt_of_le (h.lt k) (Nat.pow_le_pow_right (n := 2) (by decide) (show 64 ≤ j by omega)))]
          simp
      have hl : k < W.length := by rw [h.len]; exact hk
      rw [List.getD_eq_getElem?_getD, List.getElem?_eq_getElem hl] at h0
      rw [List.getElem?_eq_getElem hl]
      simp only [Option.getD_some] at h0
      rw [h0]
      show some 0 = (List.replicate 32 0)[k]?
      rw [List.getElem?_replicate, if_pos hk]
    · rw [List.getElem?_eq_none (by rw [h.len]; omega), List.getElem?_eq_none (by simp [noW]; omega)]
  · rintro rfl n
    exact inW_no n
/-- The words' cells. -/
def wA (W : List Nat) : Array Value := (W.map (fun x : Nat => Value.int .u64 ((x : Nat) : Int))).toArray
theorem wA_size (W : List Nat) : (wA W).size = W.length := by simp [wA]
theorem wA_at {W : List Nat} {k : Nat} (h : k < W.length) : (wA W)[k]? = some (.int .u64 ((W.getD k 0 : Nat) : Int)) := by
  simp [wA, h, List.getD_eq_getElem?_getD]
theorem wA_set (W : List Nat) (k v : Nat) : (wA W).setIfInBounds k (.int .u64 (v : Int)) = wA (W.set k v) := by
  simp [wA, List.map_set]
theorem wA_all (W : List Nat) : (wA W).all (·.oneCell') = true := by
  rw [Array.all_eq_true_iff_forall_mem]
  intro x hx
  simp only [wA, List.mem_toArray, List.mem_map] at hx
  obtain ⟨y, _, rfl⟩ := hx
  rfl
/-- A set that lies in block g behind the cells pre. -/
def pA (pre : Array Value) (W : List Nat) : Array Value := pre ++ wA W
theorem pA_at {pre : Array Value} {W : List Nat} {k : Nat} (h : k < W.length) : (pA pre W)[pre.size + k]? = some (.int .u64 ((W.getD k 0 : Nat) : Int)) := by
  unfold pA
  rw [Array.getElem?_append_right (by omega), Nat.add_sub_cancel_left]
  exact wA_at h
theorem pA_set (pre : Array Value) (W : List Nat) (k v : Nat) : (pA pre W).setIfInBounds (pre.size + k) (.int .u64 (v : Int)) = pA pre (W.set k v) := by
  unfold pA
  rw [← wA_set]
  apply Array.ext'
  simp [List.set_append]
end Go.Proofs.YtkfdikpnnkbgaaaGreatDoor
