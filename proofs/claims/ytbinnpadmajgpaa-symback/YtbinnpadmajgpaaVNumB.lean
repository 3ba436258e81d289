/-
  Plain mathematics for reading numbers (no Go text): where a number's last byte stands, what its bytes are worth, which bytes are a number's own; and that putting and reading undo each other.
-/
import Derived.Test.YtbinnpadmajgpaaVNum
namespace Go.Proofs.Ytbinnpadmajgpaa.V
/-- How many bytes there are to the first one below 128; 0, if there is none. -/
def fs : List Int → Nat
  | [] => 0
  | x :: r => if x < 128 then 1 else (if fs r = 0 then 0 else fs r + 1)
def dec : List Int → Nat
  | [] => 0
  | x :: r => (x % 128).toNat + 128 * dec r
def top (c : List Int) : Int := c.getD (c.length - 1) 0
/-- Just these bytes are a number's. -/
def good (c : List Int) : Prop := ¬ (1 < c.length ∧ top c = 0) ∧ c.length ≤ 10 ∧ ¬ (c.length = 10 ∧ 1 < top c)

theorem fs_found : ∀ (l : List Int) (i : Nat), i < l.length → (∀ j, j < i → 128 ≤ l.getD j 0) → l.getD i 0 < 128 → fs l = i + 1
  | [], i, h, _, _ => by simp at h
  | x :: r, 0, _, _, h => by simp at h; simp [fs, h]
  | x :: r, i + 1, h, h1, h2 => by
    have hx : ¬ x < 128 := by have := h1 0 (by omega); simp at this; omega
    have ih := fs_found r i (by simpa using h) (fun j hj => by have := h1 (j + 1) (by omega); simpa using this) (by simpa using h2)
    simp [fs, hx, ih]
theorem fs_none : ∀ (l : List Int), (∀ j, j < l.length → 128 ≤ l.getD j 0) → fs l = 0
  | [], _ => rfl
  | x :: r, h => by
    have hx : ¬ x < 128 := by have := h 0 (by simp); simp at this; omega
    have ih := fs_none r (fun j hj => by have := h (j + 1) (by simpa using hj); simpa using this)
    simp [fs, hx, ih]
theorem fs_le : ∀ (l : List Int), fs l ≤ l.length
  | [] => by simp [fs]
  | x :: r => by
    have := fs_le r
    unfold fs
    split
    · simp
    · split <;> simp <;> omega

/-- What holds of a number's bytes: all but the last are from 128 on. -/
structure Num (c : List Int) : Prop where
  pos : c ≠ []
  fsl : fs c = c.length
theorem num_take : ∀ (l : List Int), fs l ≠ 0 → fs (l.take (fs l)) = fs l
  | [], h => by simp [fs] at h
  | x :: r, h => by
    by_cases hx : x < 128
    · have e : fs (x :: r) = 1 := by simp [fs, hx]
      rw [e]; simp [fs, hx]
    · by_cases hr : fs r = 0
      · exact absurd (by simp [fs, hx, hr]) h
      · have e : fs (x :: r) = fs r + 1 := by simp [fs, hx, hr]
        have ih := num_take r hr
        rw [e, List.take_succ_cons]
        simp [fs, hx, ih, hr]
theorem num_of_fs (l : List Int) (h : fs l ≠ 0) : Num (l.take (fs l)) := by
  have h1 := num_take l h
  have h2 := fs_le l
  refine ⟨fun e => ?_, ?_⟩
  · rw [e] at h1; simp [fs] at h1; omega
  · rw [h1]; simp; omega
theorem Num.tail {x : Int} {r : List Int} (h : Num (x :: r)) (hr : r ≠ []) : 128 ≤ x ∧ Num r := by
  have h1 := h.fsl
  have hl : 0 < r.length := List.length_pos_iff.2 hr
  unfold fs at h1
  split at h1
  · rw [List.length_cons] at h1; omega
  · split at h1
    · simp at h1
    · exact ⟨by omega, hr, by simp at h1; omega⟩
theorem Num.one {x : Int} (h : Num [x]) : x < 128 := by
  have h1 := h.fsl
  unfold fs at h1
  split at h1
  · assumption
  · simp [fs] at h1

theorem top_cons (x : Int) (r : List Int) (hr : r ≠ []) : top (x :: r) = top r := by
  have hl : 0 < r.length := List.length_pos_iff.2 hr
  unfold top
  obtain ⟨n, hn⟩ : ∃ n, r.length = n + 1 := ⟨r.length - 1, by omega⟩
  simp [hn]

theorem dec_append : ∀ (p q : List Int), dec (p ++ q) = dec p + 128 ^ p.length * dec q
  | [], q => by simp [dec]
  | x :: p, q => by
    simp only [List.cons_append, dec, dec_append p q, List.length_cons, Nat.pow_succ, Nat.mul_add]
    rw [Nat.mul_comm (128 ^ p.length) 128, Nat.mul_assoc]
    omega
theorem dec_lt : ∀ (c : List Int), dec c < 128 ^ c.length
  | [] => by simp [dec]
  | x :: r => by
    have := dec_lt r
    simp only [dec, List.length_cons, Nat.pow_succ]
    omega
theorem dec_take_succ (c : List Int) (i : Nat) (h : i < c.length) : dec (c.take (i + 1)) = dec (c.take i) + 128 ^ i * (c.getD i 0 % 128).toNat := by
  rw [List.take_succ_eq_append_getElem h, dec_append]
  simp [dec, List.length_take, Nat.min_eq_left (Nat.le_of_lt h), List.getD, List.getElem?_eq_getElem h]
theorem dec_bound (c : List Int) (h : good c) (ht : 0 ≤ top c) (hp : c ≠ []) : dec c < 18446744073709551616 := by
  have hl : 0 < c.length := List.length_pos_iff.2 hp
  obtain ⟨n, hn⟩ : ∃ n, c.length = n + 1 := ⟨c.length - 1, by omega⟩
  have h1 := dec_take_succ c n (by omega)
  rw [← hn, List.take_length] at h1
  have h2 := dec_lt (c.take n)
  rw [List.length_take, Nat.min_eq_left (by omega)] at h2
  have h10 := h.2.1
  have htop : top c = c.getD n 0 := by simp [top, hn]
  by_cases h9 : n = 9
  · subst h9
    have h3 := h.2.2
    have h4 : (c.getD 9 0 % 128).toNat ≤ 1 := by
      rw [← htop]
      have : ¬ 1 < top c := fun hh => h3 ⟨by omega, hh⟩
      omega
    have h5 : 128 ^ 9 * (c.getD 9 0 % 128).toNat ≤ 128 ^ 9 * 1 := Nat.mul_le_mul_left _ h4
    omega
  · have h3 := dec_lt c
    have h4 : 128 ^ c.length ≤ 128 ^ 9 := Nat.pow_le_pow_right (by omega) (by omega)
    omega

theorem dec_pos : ∀ (c : List Int), Num c → (∀ x ∈ c, 0 ≤ x ∧ x ≤ 255) → top c ≠ 0 → 0 < dec c
  | [], h, _, _ => absurd rfl h.pos
  | [x], h, hb, ht => by
    have h1 := h.one
    have h2 := hb x (by simp)
    simp [top] at ht
    simp [dec]; omega
  | x :: y :: r, h, hb, ht => by
    have h1 := h.tail (by simp)
    rw [top_cons x _ (by simp)] at ht
    have := dec_pos (y :: r) h1.2 (fun z hz => hb z (by simp [List.mem_cons.1 hz])) ht
    unfold dec
    omega

/-- One way: what is read has, put again, just those bytes. -/
theorem enc_dec : ∀ (c : List Int) (f : Nat), Num c → (∀ x ∈ c, 0 ≤ x ∧ x ≤ 255) → (1 < c.length → top c ≠ 0) → c.length ≤ f + 1 → encF f (dec c) = c
  | [], _, h, _, _, _ => absurd rfl h.pos
  | [x], f, h, hb, _, _ => by
    have h1 := h.one
    have h2 := hb x (by simp)
    have e : dec [x] = x.toNat := by simp [dec]; omega
    rw [e, encF_small _ _ (by omega)]
    simp; omega
  | x :: y :: r, f, h, hb, ht, hl => by
    have h1 := h.tail (by simp)
    have ht' := ht (by simp)
    rw [top_cons x _ (by simp)] at ht'
    have hb' : ∀ z ∈ y :: r, 0 ≤ z ∧ z ≤ 255 := fun z hz => hb z (List.mem_cons_of_mem _ hz)
    have hp := dec_pos (y :: r) h1.2 hb' ht'
    have hx := hb x (by simp)
    obtain ⟨g, rfl⟩ : ∃ g, f = g + 1 := ⟨f - 1, by simp at hl; omega⟩
    have e : dec (x :: y :: r) = (x % 128).toNat + 128 * dec (y :: r) := rfl
    have ih := enc_dec (y :: r) g h1.2 hb' (fun _ => ht') (by simp at hl ⊢; omega)
    rw [encF_more _ _ (by omega), show dec (x :: y :: r) / 128 = dec (y :: r) by omega, ih]
    congr 1
    omega

theorem encF_ne (f x : Nat) : encF f x ≠ [] := by
  have := encF_length f x
  have h := (szF_range f x).1
  intro e
  rw [e] at this
  simp at this; omega
theorem fs_encF : ∀ (f x : Nat) (r : List Int), x < 128 ^ (f + 1) → fs (encF f x ++ r) = szF f x
  | 0, x, r, h => by simp at h; simp [encF, fs, szF]; omega
  | f + 1, x, r, h => by
    by_cases hx : x < 128
    · rw [encF_small _ _ hx]; simp [fs, szF, hx]; omega
    · rw [encF_more _ _ (by omega)]
      have ih := fs_encF f (x / 128) r (by rw [Nat.pow_succ] at h; omega)
      have h1 := (szF_range f (x / 128)).1
      have h2 : ¬ ((x % 128 + 128 : Nat) : Int) < 128 := by omega
      simp only [List.cons_append, fs, if_neg h2, ih, if_neg (show ¬ szF f (x / 128) = 0 by omega)]
      simp [szF, hx]
theorem dec_encF : ∀ (f x : Nat), x < 128 ^ (f + 1) → dec (encF f x) = x
  | 0, x, h => by simp at h; simp [encF, dec]; omega
  | f + 1, x, h => by
    by_cases hx : x < 128
    · rw [encF_small _ _ hx]; simp [dec]; omega
    · rw [encF_more _ _ (by omega)]
      have ih := dec_encF f (x / 128) (by rw [Nat.pow_succ] at h; omega)
      simp only [dec, ih]
      omega
theorem top_encF : ∀ (f x : Nat), x < 128 ^ (f + 1) → top (encF f x) = ((x / 128 ^ (szF f x - 1) : Nat) : Int) ∧ (1 < szF f x → 1 ≤ x / 128 ^ (szF f x - 1))
  | 0, x, h => by simp [encF, top, szF]
  | f + 1, x, h => by
    by_cases hx : x < 128
    · rw [encF_small _ _ hx]; simp [top, szF, hx]
    · have ih := top_encF f (x / 128) (by rw [Nat.pow_succ] at h; omega)
      have h1 := (szF_range f (x / 128)).1
      have e : szF (f + 1) x = szF f (x / 128) + 1 := by simp [szF, hx]
      rw [encF_more _ _ (by omega), top_cons _ _ (encF_ne _ _), e]
      have e2 : x / 128 / 128 ^ (szF f (x / 128) - 1) = x / 128 ^ (szF f (x / 128) + 1 - 1) := by
        rw [Nat.div_div_eq_div_mul, Nat.mul_comm, ← Nat.pow_succ]
        congr 2; omega
      rw [← e2]
      refine ⟨ih.1, fun _ => ?_⟩
      by_cases h2 : 1 < szF f (x / 128)
      · exact ih.2 h2
      · rw [show szF f (x / 128) - 1 = 0 by omega]
        simp; omega
theorem good_enc (x : Nat) (h : x < 18446744073709551616) : good (enc x) := by
  have h1 := top_encF 9 x (by omega)
  have h2 := enc_length x
  have h3 := sz_range x
  refine ⟨fun hh => ?_, by omega, fun hh => ?_⟩
  · have := h1.2 (by unfold sz at h2; rw [← h2]; exact hh.1)
    have h4 := hh.2
    unfold enc at h4
    rw [h1.1] at h4
    omega
  · have h4 := hh.2
    unfold enc at h4
    rw [h1.1] at h4
    have h5 : szF 9 x = 10 := by unfold sz at h2; rw [← h2]; exact hh.1
    rw [h5] at h4
    have : x / 128 ^ (10 - 1) < 2 := Nat.div_lt_of_lt_mul (by omega)
    omega

def unzig (n : Nat) : Int := if n % 2 = 1 then -((n / 2 : Nat) : Int) - 1 else ((n / 2 : Nat) : Int)
theorem unzig_zig (x : Int) : unzig (zig x) = x := by
  unfold unzig zig
  split <;> split <;> omega
theorem zig_unzig (n : Nat) : zig (unzig n) = n := by
  unfold unzig zig
  split <;> split <;> omega
end Go.Proofs.Ytbinnpadmajgpaa.V
