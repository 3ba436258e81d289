/-
  Numbers as bytes, and how they are put.
-/
import Derived.Test.YtmjjedbdedemcaaGreatDoorA
import Derived.Test.YtmjjedbdedemcaaGreatDoorChecked
import Derived.WalkKit
import Derived.WalkLawsBesides
import Derived.Laws.CopyOwn
import Derived.Laws.AppendOwnNone
namespace Go.Proofs.YtmjjedbdedemcaaGreatDoor
open Go.RowKit
set_option linter.unusedVariables false

/-- The bytes of a number, with fuel. -/
def encF : Nat → Nat → List Int
  | 0, x => [(x : Int)]
  | f + 1, x => if x < 128 then [(x : Int)] else ((x % 128 + 128 : Nat) : Int) :: encF f (x / 128)
def enc (x : Nat) : List Int := encF 9 x
def szF : Nat → Nat → Nat
  | 0, _ => 1
  | f + 1, x => if x < 128 then 1 else szF f (x / 128) + 1
def sz (x : Nat) : Nat := szF 9 x
/-- The number of a number with a sign. -/
def zig (n : Int) : Nat := (if n < 0 then -2 * n - 1 else 2 * n).toNat

theorem encF_length : ∀ f x, (encF f x).length = szF f x
  | 0, x => rfl
  | f + 1, x => by
    unfold encF szF
    split
    · rfl
    · simp [encF_length f]
theorem enc_length (x : Nat) : (enc x).length = sz x := encF_length 9 x

theorem encF_small (f x : Nat) (h : x < 128) : encF f x = [(x : Int)] := by
  cases f with
  | zero => rfl
  | succ f => simp [encF, h]
theorem encF_more (f x : Nat) (h : 128 ≤ x) : encF (f + 1) x = ((x % 128 + 128 : Nat) : Int) :: encF f (x / 128) := by
  simp [encF, show ¬ x < 128 by omega]

theorem encF_bytes : ∀ f x, x < 128 ^ (f + 1) → ∀ y ∈ encF f x, 0 ≤ y ∧ y ≤ 255
  | 0, x, h, y, hy => by simp [encF] at hy; omega
  | f + 1, x, h, y, hy => by
    by_cases hx : x < 128
    · rw [encF_small _ _ hx] at hy; simp at hy; omega
    · rw [encF_more _ _ (by omega)] at hy
      rcases List.mem_cons.1 hy with rfl | hy
      · omega
      · exact encF_bytes f (x / 128) (by rw [Nat.pow_succ] at h; omega) y hy
theorem enc_bytes (x : Nat) (h : x < 18446744073709551616) : ∀ y ∈ enc x, 0 ≤ y ∧ y ≤ 255 := encF_bytes 9 x (by omega)

theorem szF_unique : ∀ (f x s : Nat), 1 ≤ s → s ≤ f + 1 → x < 128 ^ s → (1 < s → 128 ^ (s - 1) ≤ x) → szF f x = s
  | 0, x, s, h1, h2, h3, h4 => by simp [szF]; omega
  | f + 1, x, s, h1, h2, h3, h4 => by
    match s, h1 with
    | 1, _ => simp at h3; simp [szF, h3]
    | s + 2, _ =>
      have h5 := h4 (by omega)
      simp only [show s + 2 - 1 = s + 1 from rfl] at h5
      have h6 : 128 ≤ x := by
        have : 128 ^ 1 ≤ 128 ^ (s + 1) := Nat.pow_le_pow_right (by omega) (by omega)
        omega
      have h7 : x / 128 < 128 ^ (s + 1) := by
        rw [Nat.pow_succ] at h3
        exact Nat.div_lt_of_lt_mul (by rw [Nat.mul_comm]; exact h3)
      have h8 : 1 < s + 1 → 128 ^ (s + 1 - 1) ≤ x / 128 := by
        intro _
        rw [Nat.le_div_iff_mul_le (by omega), Nat.add_sub_cancel, ← Nat.pow_succ]
        exact h5
      have := szF_unique f (x / 128) (s + 1) (by omega) (by omega) h7 h8
      simp [szF, show ¬ x < 128 by omega, this]

theorem szF_range : ∀ (f x : Nat), 1 ≤ szF f x ∧ szF f x ≤ f + 1
  | 0, x => by simp [szF]
  | f + 1, x => by
    have := szF_range f (x / 128)
    unfold szF
    split <;> omega
theorem sz_range (x : Nat) : 1 ≤ sz x ∧ sz x ≤ 10 := szF_range 9 x
theorem szF_mono : ∀ (f x y : Nat), x ≤ y → szF f x ≤ szF f y
  | 0, x, y, h => by simp [szF]
  | f + 1, x, y, h => by
    have := szF_mono f (x / 128) (y / 128) (Nat.div_le_div_right h)
    have := szF_range f (y / 128)
    unfold szF
    split <;> split <;> omega
theorem sz_mono (x y : Nat) (h : x ≤ y) : sz x ≤ sz y := szF_mono 9 x y h

/-- n is the number of bits of x. -/
def IsLen (x n : Int) : Prop := 0 ≤ n ∧ n ≤ 64 ∧ x < 2 ^ n.toNat ∧ (0 < n → 2 ^ (n.toNat - 1) ≤ x)
def Bl (y t : Nat) : Prop := t ≤ 8 ∧ y < 2 ^ t ∧ (0 < t → 2 ^ (t - 1) ≤ y)

abbrev TAB : ByteArray := { data := #[0, 1, 2, 2, 3, 3, 3, 3, 4, 4, 4, 4, 4, 4, 4, 4, 5, 5, 5, 5, 5, 5, 5, 5, 5, 5, 5, 5, 5, 5, 5, 5, 6, 6, 6, 6, 6, 6, 6, 6, 6, 6, 6, 6, 6, 6, 6, 6, 6, 6, 6, 6, 6, 6, 6, 6, 6, 6, 6, 6, 6, 6, 6, 6, 7, 7, 7, 7, 7, 7, 7, 7, 7, 7, 7, 7, 7, 7, 7, 7, 7, 7, 7, 7, 7, 7, 7, 7, 7, 7, 7, 7, 7, 7, 7, 7, 7, 7, 7, 7, 7, 7, 7, 7, 7, 7, 7, 7, 7, 7, 7, 7, 7, 7, 7, 7, 7, 7, 7, 7, 7, 7, 7, 7, 7, 7, 7, 7, 8, 8, 8, 8, 8, 8, 8, 8, 8, 8, 8, 8, 8, 8, 8, 8, 8, 8, 8, 8, 8, 8, 8, 8, 8, 8, 8, 8, 8, 8, 8, 8, 8, 8, 8, 8, 8, 8, 8, 8, 8, 8, 8, 8, 8, 8, 8, 8, 8, 8, 8, 8, 8, 8, 8, 8, 8, 8, 8, 8, 8, 8, 8, 8, 8, 8, 8, 8, 8, 8, 8, 8, 8, 8, 8, 8, 8, 8, 8, 8, 8, 8, 8, 8, 8, 8, 8, 8, 8, 8, 8, 8, 8, 8, 8, 8, 8, 8, 8, 8, 8, 8, 8, 8, 8, 8, 8, 8, 8, 8, 8, 8, 8, 8, 8, 8, 8, 8, 8, 8, 8, 8, 8, 8, 8, 8, 8, 8] }
theorem byte_getD (b : ByteArray) (i : Nat) (h : i < b.size) : b[i] = b.data.toList.getD i 0 := by
  have h' : i < b.data.toList.length := by simpa using h
  simp only [List.getD, List.getElem?_eq_getElem h', Option.getD_some]
  rfl
def tabOk (i : Nat) : Bool := (TAB.data.toList.getD i 0).toNat ≤ 8 && i < 2 ^ (TAB.data.toList.getD i 0).toNat && ((TAB.data.toList.getD i 0).toNat == 0 || 2 ^ ((TAB.data.toList.getD i 0).toNat - 1) ≤ i)
theorem tab_all : (List.range 256).all tabOk = true := by decide +kernel
theorem tab_size : TAB.size = 256 := by decide +kernel
theorem tab (i : Nat) (h : i < TAB.size) : Bl i (TAB[i]).toNat := by
  have h1 : tabOk i = true := List.all_eq_true.1 tab_all i (List.mem_range.2 (tab_size ▸ h))
  rw [byte_getD TAB i h]
  unfold tabOk at h1
  generalize (TAB.data.toList.getD i 0).toNat = t at *
  simp only [Bool.and_eq_true, Bool.or_eq_true, decide_eq_true_eq, beq_iff_eq] at h1
  exact ⟨h1.1.1, h1.1.2, fun h => by rcases h1.2 with h2 | h2 <;> omega⟩

theorem isLen_of (x : Int) (d k t : Nat) (h0 : 0 ≤ x) (hk : k ≤ 56) (hd : d = 2 ^ k) (hpos : 0 < k → d ≤ x) (hb : Bl ((x / (d : Int)).toNat) t) : IsLen x ((k : Int) + t) := by
  obtain ⟨x, rfl⟩ := Int.eq_ofNat_of_zero_le h0
  obtain ⟨h1, h2, h3⟩ := hb
  subst hd
  have e1 : ((x : Int) / ((2 ^ k : Nat) : Int)).toNat = x / 2 ^ k := by rw [← Int.natCast_ediv, Int.toNat_natCast]
  rw [e1] at h2 h3
  have e2 : ((k : Int) + t).toNat = k + t := by omega
  have hp : 0 < 2 ^ k := Nat.pow_pos (by omega)
  refine ⟨by omega, by omega, ?_, ?_⟩
  · rw [e2]
    have : x < 2 ^ (k + t) := by
      rw [Nat.pow_add]
      exact (Nat.div_lt_iff_lt_mul hp).1 h2 |> fun h => by rw [Nat.mul_comm]; exact h
    exact_mod_cast this
  · intro hpos'
    rw [e2]
    by_cases ht : 0 < t
    · have h4 := h3 ht
      rw [Nat.le_div_iff_mul_le hp, ← Nat.pow_add] at h4
      have : k + t - 1 = t - 1 + k := by omega
      rw [this]
      exact_mod_cast h4
    · have ht0 : t = 0 := by omega
      subst ht0
      have hk0 : 0 < k := by omega
      have h5 := hpos hk0
      have h6 : x / 2 ^ k < 1 := by simpa using h2
      have h7 : 2 ^ k ≤ x := by exact_mod_cast h5
      have := Nat.div_pos h7 hp
      omega

theorem sz_of_len (x : Nat) (n : Int) (h : IsLen x n) : ((max n 1 + 7 - 1) / 7) = ((sz x : Nat) : Int) := by
  obtain ⟨h0, h1, h2, h3⟩ := h
  obtain ⟨n, rfl⟩ := Int.eq_ofNat_of_zero_le h0
  rw [Int.toNat_natCast] at h2 h3
  have h2' : x < 2 ^ n := by exact_mod_cast h2
  have hs : sz x = (max n 1 + 6) / 7 := by
    refine szF_unique 9 x ((max n 1 + 6) / 7) (by omega) (by omega) ?_ ?_
    · rw [show (128 : Nat) = 2 ^ 7 from rfl, ← Nat.pow_mul]
      exact Nat.lt_of_lt_of_le h2' (Nat.pow_le_pow_right (by omega) (by omega))
    · intro hs
      have h3' : 2 ^ (n - 1) ≤ x := by exact_mod_cast h3 (by omega)
      rw [show (128 : Nat) = 2 ^ 7 from rfl, ← Nat.pow_mul]
      exact Nat.le_trans (Nat.pow_le_pow_right (by omega) (by omega)) h3'
  rw [hs]
  omega
/-- How many bytes there are to the first one below 128; 0, if there is none. -/
def fs : List Int → Nat
  | [] => 0
  | x :: r => if x < 128 then 1 else (if fs r = 0 then 0 else fs r + 1)
def dec : List Int → Nat
  | [] => 0
  | x :: r => (x % 128).toNat + 128 * dec r
def top (c : List Int) : Int := c.getD (c.length - 1) 0
/-- Just these bytes are a number's. -/
def good (c : List Int) : Prop := ¬ (1 < c.length ∧ top c = 0) ∧ c.length ≤ 10 ∧ ¬ (c.length = 10 ∧ 1 < top c)

theorem fs_found : ∀ (l : List Int) (i : Nat), i < l.length → (∀ j, j < i → 128 ≤ l.getD j 0) → l.getD i 0 < 128 → fs l = i + 1
  | [], i, h, _, _ => by simp at h
  | x :: r, 0, _, _, h => by simp at h; simp [fs, h]
  | x :: r, i + 1, h, h1, h2 => by
    have hx : ¬ x < 128 := by have := h1 0 (by omega); simp at this; omega
    have ih := fs_found r i (by simpa using h) (fun j hj => by have := h1 (j + 1) (by omega); simpa using this) (by simpa using h2)
    simp [fs, hx, ih]
theorem fs_none : ∀ (l : List Int), (∀ j, j < l.length → 128 ≤ l.getD j 0) → fs l = 0
  | [], _ => rfl
  | x :: r, h => by
    have hx : ¬ x < 128 := by have := h 0 (by simp); simp at this; omega
    have ih := fs_none r (fun j hj => by have := h (j + 1) (by simpa using hj); simpa using this)
    simp [fs, hx, ih]
theorem fs_le : ∀ (l : List Int), fs l ≤ l.length
  | [] => by simp [fs]
  | x :: r => by
    have := fs_le r
    unfold fs
    split
    · simp
    · split <;> simp <;> omega

/-- What holds of a number's bytes: all but the last are from 128 on. -/
structure Num (c : List Int) : Prop where
  pos : c ≠ []
  fsl : fs c = c.length
theorem num_take : ∀ (l : List Int), fs l ≠ 0 → fs (l.take (fs l)) = fs l
  | [], h => by simp [fs] at h
  | x :: r, h => by
    by_cases hx : x < 128
    · have e : fs (x :: r) = 1 := by simp [fs, hx]
      rw [e]; simp [fs, hx]
    · by_cases hr : fs r = 0
      · exact absurd (by simp [fs, hx, hr]) h
      · have e : fs (x :: r) = fs r + 1 := by simp [fs, hx, hr]
        have ih := num_take r hr
        rw [e, List.take_succ_cons]
        simp [fs, hx, ih, hr]
theorem num_of_fs (l : List Int) (h : fs l ≠ 0) : Num (l.take (fs l)) := by
  have h1 := num_take l h
  have h2 := fs_le l
  refine ⟨fun e => ?_, ?_⟩
  · rw [e] at h1; simp [fs] at h1; omega
  · rw [h1]; simp; omega
theorem Num.tail {x : Int} {r : List Int} (h : Num (x :: r)) (hr : r ≠ []) : 128 ≤ x ∧ Num r := by
  have h1 := h.fsl
  have hl : 0 < r.length := List.length_pos_iff.2 hr
  unfold fs at h1
  split at h1
  · rw [List.length_cons] at h1; omega
  · split at h1
    · simp at h1
    · exact ⟨by omega, hr, by simp at h1; omega⟩
theorem Num.one {x : Int} (h : Num [x]) : x < 128 := by
  have h1 := h.fsl
  unfold fs at h1
  split at h1
  · assumption
  · simp [fs] at h1

theorem top_cons (x : Int) (r : List Int) (hr : r ≠ []) : top (x :: r) = top r := by
  have hl : 0 < r.length := List.length_pos_iff.2 hr
  unfold top
  obtain ⟨n, hn⟩ : ∃ n, r.length = n + 1 := ⟨r.length - 1, by omega⟩
  simp [hn]

theorem dec_append : ∀ (p q : List Int), dec (p ++ q) = dec p + 128 ^ p.length * dec q
  | [], q => by simp [dec]
  | x :: p, q => by
    simp only [List.cons_append, dec, dec_append p q, List.length_cons, Nat.pow_succ, Nat.mul_add]
    rw [Nat.mul_comm (128 ^ p.length) 128, Nat.mul_assoc]
    omega
theorem dec_lt : ∀ (c : List Int), dec c < 128 ^ c.length
  | [] => by simp [dec]
  | x :: r => by
    have := dec_lt r
    simp only [dec, List.length_cons, Nat.pow_succ]
    omega
theorem dec_take_succ (c : List Int) (i : Nat) (h : i < c.length) : dec (c.take (i + 1)) = dec (c.take i) + 128 ^ i * (c.getD i 0 % 128).toNat := by
  rw [List.take_succ_eq_append_getElem h, dec_append]
  simp [dec, List.length_take, Nat.min_eq_left (Nat.le_of_lt h), List.getD, List.getElem?_eq_getElem h]
theorem dec_bound (c : List Int) (h : good c) (ht : 0 ≤ top c) (hp : c ≠ []) : dec c < 18446744073709551616 := by
  have hl : 0 < c.length := List.length_pos_iff.2 hp
  obtain ⟨n, hn⟩ : ∃ n, c.length = n + 1 := ⟨c.length - 1, by omega⟩
  have h1 := dec_take_succ c n (by omega)
  rw [← hn, List.take_length] at h1
  have h2 := dec_lt (c.take n)
  rw [List.length_take, Nat.min_eq_left (by omega)] at h2
  have h10 := h.2.1
  have htop : top c = c.getD n 0 := by simp [top, hn]
  by_cases h9 : n = 9
  · subst h9
    have h3 := h.2.2
    have h4 : (c.getD 9 0 % 128).toNat ≤ 1 := by
      rw [← htop]
      have : ¬ 1 < top c := fun hh => h3 ⟨by omega, hh⟩
      omega
    have h5 : 128 ^ 9 * (c.getD 9 0 % 128).toNat ≤ 128 ^ 9 * 1 := Nat.mul_le_mul_left _ h4
    omega
  · have h3 := dec_lt c
    have h4 : 128 ^ c.length ≤ 128 ^ 9 := Nat.pow_le_pow_right (by omega) (by omega)
    omega

theorem dec_pos : ∀ (c : List Int), Num c → (∀ x ∈ c, 0 ≤ x ∧ x ≤ 255) → top c ≠ 0 → 0 < dec c
  | [], h, _, _ => absurd rfl h.pos
  | [x], h, hb, ht => by
    have h1 := h.one
    have h2 := hb x (by simp)
    simp [top] at ht
    simp [dec]; omega
  | x :: y :: r, h, hb, ht => by
    have h1 := h.tail (by simp)
    rw [top_cons x _ (by simp)] at ht
    have := dec_pos (y :: r) h1.2 (fun z hz => hb z (by simp [List.mem_cons.1 hz])) ht
    unfold dec
    omega

/-- One way: what is read has, put again, just those bytes. -/
theorem enc_dec : ∀ (c : List Int) (f : Nat), Num c → (∀ x ∈ c, 0 ≤ x ∧ x ≤ 255) → (1 < c.length → top c ≠ 0) → c.length ≤ f + 1 → encF f (dec c) = c
  | [], _, h, _, _, _ => absurd rfl h.pos
  | [x], f, h, hb, _, _ => by
    have h1 := h.one
    have h2 := hb x (by simp)
    have e : dec [x] = x.toNat := by simp [dec]; omega
    rw [e, encF_small _ _ (by omega)]
    simp; omega
  | x :: y :: r, f, h, hb, ht, hl => by
    have h1 := h.tail (by simp)
    have ht' := ht (by simp)
    rw [top_cons x _ (by simp)] at ht'
    have hb' : ∀ z ∈ y :: r, 0 ≤ z ∧ z ≤ 255 := fun z hz => hb z (List.mem_cons_of_mem _ hz)
    have hp := dec_pos (y :: r) h1.2 hb' ht'
    have hx := hb x (by simp)
    obtain ⟨g, rfl⟩ : ∃ g, f = g + 1 := ⟨f - 1, by simp at hl; omega⟩
    have e : dec (x :: y :: r) = (x % 128).toNat + 128 * dec (y :: r) := rfl
    have ih := enc_dec (y :: r) g h1.2 hb' (fun _ => ht') (by simp at hl ⊢; omega)
    rw [encF_more _ _ (by omega), show dec (x :: y :: r) / 128 = dec (y :: r) by omega, ih]
    congr 1
    omega

theorem encF_ne (f x : Nat) : encF f x ≠ [] := by
  have := encF_length f x
  have h := (szF_range f x).1
  intro e
  rw [e] at this
  simp at this; omega
theorem fs_encF : ∀ (f x : Nat) (r : List Int), x < 128 ^ (f + 1) → fs (encF f x ++ r) = szF f x
  | 0, x, r, h => by simp at h; simp [encF, fs, szF]; omega
  | f + 1, x, r, h => by
    by_cases hx : x < 128
    · rw [encF_small _ _ hx]; simp [fs, szF, hx]; omega
    · rw [encF_more _ _ (by omega)]
      have ih := fs_encF f (x / 128) r (by rw [Nat.pow_succ] at h; omega)
      have h1 := (szF_range f (x / 128)).1
      have h2 : ¬ ((x % 128 + 128 : Nat) : Int) < 128 := by omega
      simp only [List.cons_append, fs, if_neg h2, ih, if_neg (show ¬ szF f (x / 128) = 0 by omega)]
      simp [szF, hx]
theorem dec_encF : ∀ (f x : Nat), x < 128 ^ (f + 1) → dec (encF f x) = x
  | 0, x, h => by simp at h; simp [encF, dec]; omega
  | f + 1, x, h => by
    by_cases hx : x < 128
    · rw [encF_small _ _ hx]; simp [dec]; omega
    · rw [encF_more _ _ (by omega)]
      have ih := dec_encF f (x / 128) (by rw [Nat.pow_succ] at h; omega)
      simp only [dec, ih]
      omega
theorem top_encF : ∀ (f x : Nat), x < 128 ^ (f + 1) → top (encF f x) = ((x / 128 ^ (szF f x - 1) : Nat) : Int) ∧ (1 < szF f x → 1 ≤ x / 128 ^ (szF f x - 1))
  | 0, x, h => by simp [encF, top, szF]
  | f + 1, x, h => by
    by_cases hx : x < 128
    · rw [encF_small _ _ hx]; simp [top, szF, hx]
    · have ih := top_encF f (x / 128) (by rw [Nat.pow_succ] at h; omega)
      have h1 := (szF_range f (x / 128)).1
      have e : szF (f + 1) x = szF f (x / 128) + 1 := by simp [szF, hx]
      rw [encF_more _ _ (by omega), top_cons _ _ (encF_ne _ _), e]
      have e2 : x / 128 / 128 ^ (szF f (x / 128) - 1) = x / 128 ^ (szF f (x / 128) + 1 - 1) := by
        rw [Nat.div_div_eq_div_mul, Nat.mul_comm, ← Nat.pow_succ]
        congr 2; omega
      rw [← e2]
      refine ⟨ih.1, fun _ => ?_⟩
      by_cases h2 : 1 < szF f (x / 128)
      · exact ih.2 h2
      · rw [show szF f (x / 128) - 1 = 0 by omega]
        simp; omega
theorem good_enc (x : Nat) (h : x < 18446744073709551616) : good (enc x) := by
  have h1 := top_encF 9 x (by omega)
  have h2 := enc_length x
  have h3 := sz_range x
  refine ⟨fun hh => ?_, by omega, fun hh => ?_⟩
  · have := h1.2 (by unfold sz at h2; rw [← h2]; exact hh.1)
    have h4 := hh.2
    unfold enc at h4
    rw [h1.1] at h4
    omega
  · have h4 := hh.2
    unfold enc at h4
    rw [h1.1] at h4
    have h5 : szF 9 x = 10 := by unfold sz at h2; rw [← h2]; exact hh.1
    rw [h5] at h4
    have : x / 128 ^ (10 - 1) < 2 := Nat.div_lt_of_lt_mul (by omega)
    omega

def unzig (n : Nat) : Int := if n % 2 = 1 then -((n / 2 : Nat) : Int) - 1 else ((n / 2 : Nat) : Int)
theorem unzig_zig (x : Int) : unzig (zig x) = x := by
  unfold unzig zig
  split <;> split <;> omega
theorem zig_unzig (n : Nat) : zig (unzig n) = n := by
  unfold unzig zig
  split <;> split <;> omega
theorem len_end (x : Int) (D : Int) (d k : Nat) (t : Nat) (K : Int) (hK : K = k) (hD : D = d) (h0 : 0 ≤ x) (hk : k ≤ 56) (hd : d = 2 ^ k) (hpos : 0 < k → (d : Int) ≤ x) (hb : Bl ((x / D).toNat) t) :
    IsLen x (wrap64 (K + wrap64 t)) := by
  subst hK hD
  have ht : t ≤ 8 := hb.1
  rw [w64 (t : Int) (by omega), w64 _ (by omega)]
  exact isLen_of x d k t h0 hk hd hpos hb
theorem len_end0 (x : Int) (t : Nat) (h0 : 0 ≤ x) (hb : Bl x.toNat t) : IsLen x (wrap64 (wrap64 t)) := by
  have h := len_end x 1 1 0 t 0 rfl rfl h0 (by omega) rfl (fun h => by omega) (by simpa using hb)
  simpa using h

set_option maxRecDepth 100000 in
set_option maxHeartbeats 1000000 in
theorem len64_any (x : Int) (w : World) (h0 : 0 ≤ x) (h1 : x < 18446744073709551616) :
    Calls Tryz.prog 96 #[.int .u64 x] w fun e w' => ∃ n : Int, e = .returned (.int .i64 n) ∧ w' = w ∧ IsLen x n := by
  go_enter Tryz.func96, Tryz.ntmps96
  go_wp2
  all_goals go_ret
  all_goals refine ⟨_, rfl, rfl, ?_⟩
  · refine len_end x 72057594037927936 72057594037927936 56 _ 56 rfl rfl h0 (by omega) (by decide) (by omega) ?_
    rw [show x / 72057594037927936 = x / 4294967296 / 65536 / 256 by omega]; exact tab _ _
  · refine len_end x 281474976710656 281474976710656 48 _ 48 rfl rfl h0 (by omega) (by decide) (by omega) ?_
    rw [show x / 281474976710656 = x / 4294967296 / 65536 by omega]; exact tab _ _
  · refine len_end x 1099511627776 1099511627776 40 _ 40 rfl rfl h0 (by omega) (by decide) (by omega) ?_
    rw [show x / 1099511627776 = x / 4294967296 / 256 by omega]; exact tab _ _
  · refine len_end x 4294967296 4294967296 32 _ 32 rfl rfl h0 (by omega) (by decide) (by omega) ?_
    exact tab _ _
  · refine len_end x 16777216 16777216 24 _ 24 rfl rfl h0 (by omega) (by decide) (by omega) ?_
    rw [show x / 16777216 = x / 65536 / 256 by omega]; exact tab _ _
  · refine len_end x 65536 65536 16 _ 16 rfl rfl h0 (by omega) (by decide) (by omega) ?_
    exact tab _ _
  · refine len_end x 256 256 8 _ 8 rfl rfl h0 (by omega) (by decide) (by omega) ?_
    exact tab _ _
  · exact len_end0 x _ h0 (tab _ _)

set_option maxHeartbeats 400000 in
theorem size_any (x : Int) (w : World) (h0 : 0 ≤ x) (h1 : x < 18446744073709551616) :
    Calls Tryz.prog 72 #[.int .u64 x] w fun e w' => e = .returned (.int .i64 (sz x.toNat)) ∧ w' = w := by
  go_enter Tryz.func72, Tryz.ntmps72
  go_wp2_with (go_at_call 96; refine (len64_any _ _ h0 h1).mono ?_; rintro e w' ⟨n, rfl, rfl, hn⟩; have hn0 : 0 ≤ n := hn.1; have hn1 : n ≤ 64 := hn.2.1)
  all_goals go_ret
  all_goals have hs := sz_of_len x.toNat n (by rwa [Int.toNat_of_nonneg h0])
  all_goals refine ⟨congrArg (fun z => Ending.returned (Value.int .i64 z)) ?_, rfl⟩
  all_goals rw [← hs]
  all_goals omega
set_option maxHeartbeats 400000 in
theorem fold_u (x : Int) (w : World) (h0 : 0 ≤ x) (h1 : x < 18446744073709551616) :
    Calls Tryz.prog 71 #[.int .u64 x] w fun e w' => e = .returned (.int .u64 x) ∧ w' = w := by
  go_enter Tryz.func71, Tryz.ntmps71
  go_wp2
  go_ret
  exact ⟨rfl, rfl⟩

theorem or_more_all : ∀ i : Fin 256, bits BinOp.or IntKind.u8 ((i.val : Nat) : Int) 128 = ((i.val % 128 + 128 : Nat) : Int) := by decide +kernel
theorem or_more (k : Nat) : bits BinOp.or IntKind.u8 ((k : Int) % 256) 128 = ((k % 128 + 128 : Nat) : Int) := by
  have := or_more_all ⟨k % 256, by omega⟩
  simp only at this
  rw [show ((k : Int) % 256) = ((k % 256 : Nat) : Int) by omega, this]
  omega

theorem put_step {w' wr w3 : World} {u v1 : Value} {len f k : Nat} {l p E : List Int} (hk : k < 128 ^ (f + 1)) (hlt : 127 < k) (hf : 0 < f) (hp : p ++ encF f k = E) (hpb : ∀ x ∈ p, 0 ≤ x ∧ x ≤ 255) (hpf : p.length + f ≤ 9)
    (O : wr.ownsRow w'.heap.size 5 1 u (len + p.length) ((l ++ p).map (Value.int .u8))) (B : Below w'.heap.size w' wr)
    (O3 : w3.ownsRow w'.heap.size 5 1 v1 (len + p.length + 1) (l.map (Value.int .u8) ++ (p.map (Value.int .u8) ++ [Value.int .u8 ((k % 128 + 128 : Nat) : Int)])))
    (G3 : (wr.alloc (.cells #[.int .u8 ((k % 128 + 128 : Nat) : Int)] 5)).grownBy w3 u.ownBlock) :
    k / 128 < 128 ^ (f - 1 + 1) ∧ (p ++ [((k % 128 + 128 : Nat) : Int)]) ++ encF (f - 1) (k / 128) = E ∧ (∀ x ∈ p ++ [((k % 128 + 128 : Nat) : Int)], 0 ≤ x ∧ x ≤ 255) ∧ (p ++ [((k % 128 + 128 : Nat) : Int)]).length + (f - 1) ≤ 9 ∧
      w3.ownsRow w'.heap.size 5 1 v1 (len + (p ++ [((k % 128 + 128 : Nat) : Int)]).length) ((l ++ (p ++ [((k % 128 + 128 : Nat) : Int)])).map (Value.int .u8)) ∧ Below w'.heap.size w' w3 := by
  obtain ⟨f, rfl⟩ : ∃ g, f = g + 1 := ⟨f - 1, by omega⟩
  rw [encF_more _ _ (by omega)] at hp
  refine ⟨?_, ?_, ?_, ?_, ?_, ?_⟩
  · rw [Nat.pow_succ] at hk; exact Nat.div_lt_of_lt_mul (by rw [Nat.mul_comm]; simpa using hk)
  · simpa using hp
  · intro x hx
    rcases List.mem_append.1 hx with h | h
    · exact hpb x h
    · simp at h; omega
  · simp; omega
  · simpa [Nat.add_assoc] using O3
  · exact (B.alloc B.size _).grown G3 (by simp; have := B.size; omega) (fun j hj => (O.lt j hj).1)

theorem put_end {w' wr w3 : World} {u v1 : Value} {len f k : Nat} {l p E : List Int} (hk : k < 128) (hp : p ++ encF f k = E) (hl : ∀ x ∈ l, 0 ≤ x ∧ x ≤ 255) (hpb : ∀ x ∈ p, 0 ≤ x ∧ x ≤ 255) (hpf : p.length + f ≤ 9)
    (O : wr.ownsRow w'.heap.size 5 1 u (len + p.length) ((l ++ p).map (Value.int .u8))) (B : Below w'.heap.size w' wr)
    (O3 : w3.ownsRow w'.heap.size 5 1 v1 (len + p.length + 1) (l.map (Value.int .u8) ++ (p.map (Value.int .u8) ++ [Value.int .u8 (k : Int)])))
    (G3 : (wr.alloc (.cells #[.int .u8 (k : Int)] 5)).grownBy w3 u.ownBlock) : Ret w' (l ++ E) (.returned v1) w3 := by
  rw [encF_small _ _ hk] at hp
  subst hp
  refine ret_of_owns (n := len + p.length + 1) (by simpa using O3) ?_ ((B.alloc B.size _).grown G3 (by simp; have := B.size; omega) (fun j hj => (O.lt j hj).1))
  intro x hx
  rcases List.mem_append.1 hx with h | h
  · exact hl x h
  · rcases List.mem_append.1 h with h | h
    · exact hpb x h
    · simp at h; omega

set_option maxHeartbeats 1000000 in
theorem put_u (w : World) (a : Option Addr) (len cap : Nat) (l : List Int) (n : Int) (h : Has w a len cap l) (hb : len ≤ 1099511627776) (h0 : 0 ≤ n) (h1 : n < 18446744073709551616) :
    Calls Tryz.prog 51 #[.slice a len cap, .int .u64 n] w (Ret w (l ++ enc n.toNat)) := by
  obtain ⟨z, hz⟩ : ∃ z, z = sz n.toNat := ⟨_, rfl⟩
  have hz1 : z ≤ 10 := by have := sz_range n.toNat; omega
  have Hz : Hid (z = sz n.toNat) := hz
  have hsize := fun w' => size_any n w' h0 h1
  rw [← hz] at hsize
  have Hs : Hid (∀ w', Calls Tryz.prog 72 #[.int .u64 n] w' fun e w'' => e = .returned (.int .i64 z) ∧ w'' = w') := hsize
  clear hz hsize
  go_enter Tryz.func51, Tryz.ntmps51
  go_wp2_with (first
    | (go_at_call 71; refine (fold_u _ _ h0 h1).mono ?_; rintro e w' ⟨rfl, rfl⟩)
    | (go_at_call 72; refine (Hs.out _).mono ?_; rintro e w' ⟨rfl, rfl⟩)
    | (at_make; refine wpList_make2 rfl (.tmp 10) (.tmp 15) rfl len (len + z) _ _ rfl rfl rfl (by omega) (by omega) (by omega) ?_; intro w1 O1 B1)
    | (refine wpList_copy2 rfl (.tmp 17) (.tmp 18) rfl _ _ len (len + z) _ rfl O1 a len cap l rfl rfl (h.kept B1 (Nat.le_refl _)) ?_; intro w2 O2 G2; clear O1))
  have B2 : Below w'.heap.size w' w2 := B1.grown G2 B1.size (fun k hk => by cases hk; exact Nat.le_refl _)
  have hl := h.bytes
  have hn0 := h.hlen
  have He : Hid (∃ f k p, (n = ((k : Nat) : Int)) ∧ (k : Int) ≤ n ∧ k < 128 ^ (f + 1) ∧ p ++ encF f k = enc n.toNat ∧ (∀ x ∈ p, 0 ≤ x ∧ x ≤ 255) ∧ p.length + f ≤ 9 ∧ w2.ownsRow w'.heap.size 5 1 (Value.slice (some { block := w'.heap.size, off := 0 }) len (len + z)) (len + p.length) ((l ++ p).map (Value.int .u8)) ∧ Below w'.heap.size w' w2) :=
    ⟨9, n.toNat, [], by omega, by omega, by omega, rfl, (by simp), by simp, by simpa using O2, B2⟩
  clear G2 B1 O2 B2 Hs h
  simp only [Act.put, goInt, List.setIfInBounds_toArray, List.set_cons_succ, List.set_cons_zero]
  go_loopw [5, 6] (fun r v wr => ∃ f k p, (r = .int .u64 ((k : Nat) : Int)) ∧ (k : Int) ≤ n ∧ k < 128 ^ (f + 1) ∧ p ++ encF f k = enc n.toNat ∧ (∀ x ∈ p, 0 ≤ x ∧ x ≤ 255) ∧ p.length + f ≤ 9 ∧ wr.ownsRow w'.heap.size 5 1 v (len + p.length) ((l ++ p).map (Value.int .u8)) ∧ Below w'.heap.size w' wr) (fun r _ _ => (intOf r).toNat)
  case atStart =>
    obtain ⟨f, k, p, e1, e2⟩ := He.out
    exact ⟨f, k, p, by rw [e1], e2⟩
  case round =>
    clear He
    obtain ⟨f, k, p, rfl, hkn, hk, hp, hpb, hpf, O, B⟩ := hrel
    have hsz := B.size
    by_cases hlt : 127 < k
    · have hlt' : (127 : Int) < k := by omega
      have hf : 0 < f := by
        rcases Nat.eq_zero_or_pos f with h | h
        · subst h; simp at hk; omega
        · exact h
      go_wp2_with (at_builtin; refine wpList_app rfl (.tmp 22) (.tmp 26) rfl w'.heap.size _ (len + p.length) (l ++ p) rfl (O.alloc _) _ 1 1 [_] rfl (has_one wr _ ?c1) ?c2 ?c3 ?_)
      case c1 => rw [or_more]; omega
      case c2 => omega
      case c3 => simp; omega
      intro v1 w3 O3 G3
      rw [or_more] at O3 G3
      have R := put_step hk hlt hf hp hpb hpf O B O3 G3
      clear O3 G3 O B hp hpb
      go_wp2
      go_roundw
      case rel =>
        obtain ⟨r1, r2, r3, r4, r5, r6⟩ := R
        exact ⟨f - 1, k / 128, p ++ [((k % 128 + 128 : Nat) : Int)], by go_num, by omega, r1, r2, r3, r4, r5, r6⟩
      case measure => simp [intOf]; omega
    · go_wp2_with (at_builtin; refine wpList_app rfl (.tmp 30) (.tmp 33) rfl w'.heap.size _ (len + p.length) (l ++ p) rfl (O.alloc _) _ 1 1 [_] rfl (has_one wr _ ?d1) ?d2 ?d3 ?_)
      case d1 => omega
      case d2 => omega
      case d3 => simp; omega
      intro v1 w3 O3 G3
      have R := put_end (by omega) hp hl hpb hpf O B O3 G3
      clear O3 G3 O B hp hpb
      go_wp2
      go_ret
      exact R
set_option maxHeartbeats 400000 in
theorem Put_any (w : World) (a : Option Addr) (len cap : Nat) (l : List Int) (n : Int) (h : Has w a len cap l) (hb : len ≤ 1099511627776) (h0 : 0 ≤ n) (h1 : n < 18446744073709551616) :
    Calls Tryz.prog 29 #[.slice a len cap, .int .u64 n] w (Ret w (l ++ enc n.toNat)) := by
  go_enter Tryz.func29, Tryz.ntmps29
  go_wp2_with (go_at_call 51; refine (put_u _ _ _ _ _ _ h hb h0 h1).mono ?_; rintro e w' ⟨a', n', cap', rfl, hh, hB, hO⟩)
  go_ret
  exact ⟨a', n', cap', rfl, hh, hB, hO⟩

/-- A slice and the number 0 come out. -/
def Ret2 (w : World) (l : List Int) (e : Ending) (w' : World) : Prop :=
  ∃ a n cap, e = .returned (.tuple #[.slice a n cap, .int .i64 0]) ∧ Has w' a n cap l ∧ Below w.heap.size w w'

set_option maxHeartbeats 400000 in
theorem PutBytes_any (w : World) (a : Option Addr) (len cap : Nat) (l : List Int) (h : Has w a len cap l) (hb : len ≤ 1099511627776) (ax : Option Addr) (lx cx : Nat) (x : List Int) (hx : Has w ax lx cx x) (hxb : lx ≤ 65536) :
    Calls Tryz.prog 30 #[.slice a len cap, .slice ax lx cx] w (Ret2 w (l ++ enc lx ++ x)) := by
  have hlb : (lx : Int) ≤ 65536 := by omega
  have hn := h.hlen
  have hz := sz_range lx
  have hel := enc_length lx
  have hbl := h.bytes
  have hbx := hx.bytes
  have hbe := enc_bytes lx (by omega)
  have Hp : Hid (Calls Tryz.prog 29 #[.slice a len cap, .int .u64 lx] w (Ret w (l ++ enc lx))) := by
    have := Put_any w a len cap l lx h hb (by omega) (by omega)
    rwa [Int.toNat_natCast] at this
  have Hl : Hid (l.length = len ∧ (enc lx).length = sz lx) := ⟨hn, hel⟩
  clear hn hel h
  go_enter Tryz.func30, Tryz.ntmps30
  go_wp2_with (first
    | (go_at_call 29; refine Hp.out.mono ?_; rintro e w1 ⟨a1, n1, c1, rfl, H1, B1, O1⟩)
    | (at_builtin; refine wpList_app rfl (.tmp 13) (.tmp 14) rfl w.heap.size _ n1 (l ++ enc lx) rfl O1 ax lx cx x rfl (hx.kept B1 (Nat.le_refl _)) ?c1 ?c2 ?_))
  case c1 => have := H1.hlen; rw [List.length_append, Hl.out.1, Hl.out.2] at this; omega
  case c2 => exact B1.size
  intro v2 w2 O2 G2
  have B2 : Below w.heap.size w w2 := B1.grown G2 B1.size (fun k hk => (O1.lt k hk).1)
  obtain ⟨a2, c2, hv, H2⟩ := has_of_owns (l := l ++ enc lx ++ x) (by simpa using O2) (by
    intro y hy
    rcases List.mem_append.1 hy with h | h
    · rcases List.mem_append.1 h with h | h
      · exact hbl y h
      · exact hbe y h
    · exact hbx y h)
  rw [hv]
  clear O2 G2 H1 O1 hv
  go_wp2
  go_ret2
  exact ⟨a2, _, c2, rfl, H2, B2⟩

end Go.Proofs.YtmjjedbdedemcaaGreatDoor
