/-
  Plain mathematics for the numbers' bytes (no Go text): how many bytes a number has, which they are, and what a table of bit lengths tells.
-/

namespace Go.Proofs.Ytbinnpadmajgpaa.V
/-- The bytes of a number, with fuel. -/
def encF : Nat → Nat → List Int
  | 0, x => [(x : Int)]
  | f + 1, x => if x < 128 then [(x : Int)] else ((x % 128 + 128 : Nat) : Int) :: encF f (x / 128)
def enc (x : Nat) : List Int := encF 9 x
def szF : Nat → Nat → Nat
  | 0, _ => 1
  | f + 1, x => if x < 128 then 1 else szF f (x / 128) + 1
def sz (x : Nat) : Nat := szF 9 x
/-- The number of a number with a sign. -/
def zig (n : Int) : Nat := (if n < 0 then -2 * n - 1 else 2 * n).toNat

theorem encF_length : ∀ f x, (encF f x).length = szF f x
  | 0, x => rfl
  | f + 1, x => by
    unfold encF szF
    split
    · rfl
    · simp [encF_length f]
theorem enc_length (x : Nat) : (enc x).length = sz x := encF_length 9 x

theorem encF_small (f x : Nat) (h : x < 128) : encF f x = [(x : Int)] := by
  cases f with
  | zero => rfl
  | succ f => simp [encF, h]
theorem encF_more (f x : Nat) (h : 128 ≤ x) : encF (f + 1) x = ((x % 128 + 128 : Nat) : Int) :: encF f (x / 128) := by
  simp [encF, show ¬ x < 128 by omega]

theorem encF_bytes : ∀ f x, x < 128 ^ (f + 1) → ∀ y ∈ encF f x, 0 ≤ y ∧ y ≤ 255
  | 0, x, h, y, hy => by simp [encF] at hy; omega
  | f + 1, x, h, y, hy => by
    by_cases hx : x < 128
    · rw [encF_small _ _ hx] at hy; simp at hy; omega
    · rw [encF_more _ _ (by omega)] at hy
      rcases List.mem_cons.1 hy with rfl | hy
      · omega
      · exact encF_bytes f (x / 128) (by rw [Nat.pow_succ] at h; omega) y hy
theorem enc_bytes (x : Nat) (h : x < 18446744073709551616) : ∀ y ∈ enc x, 0 ≤ y ∧ y ≤ 255 := encF_bytes 9 x (by omega)

theorem szF_unique : ∀ (f x s : Nat), 1 ≤ s → s ≤ f + 1 → x < 128 ^ s → (1 < s → 128 ^ (s - 1) ≤ x) → szF f x = s
  | 0, x, s, h1, h2, h3, h4 => by simp [szF]; omega
  | f + 1, x, s, h1, h2, h3, h4 => by
    match s, h1 with
    | 1, _ => simp at h3; simp [szF, h3]
    | s + 2, _ =>
      have h5 := h4 (by omega)
      simp only [show s + 2 - 1 = s + 1 from rfl] at h5
      have h6 : 128 ≤ x := by
        have : 128 ^ 1 ≤ 128 ^ (s + 1) := Nat.pow_le_pow_right (by omega) (by omega)
        omega
      have h7 : x / 128 < 128 ^ (s + 1) := by
        rw [Nat.pow_succ] at h3
        exact Nat.div_lt_of_lt_mul (by rw [Nat.mul_comm]; exact h3)
      have h8 : 1 < s + 1 → 128 ^ (s + 1 - 1) ≤ x / 128 := by
        intro _
        rw [Nat.le_div_iff_mul_le (by omega), Nat.add_sub_cancel, ← Nat.pow_succ]
        exact h5
      have := szF_unique f (x / 128) (s + 1) (by omega) (by omega) h7 h8
      simp [szF, show ¬ x < 128 by omega, this]

theorem szF_range : ∀ (f x : Nat), 1 ≤ szF f x ∧ szF f x ≤ f + 1
  | 0, x => by simp [szF]
  | f + 1, x => by
    have := szF_range f (x / 128)
    unfold szF
    split <;> omega
theorem sz_range (x : Nat) : 1 ≤ sz x ∧ sz x ≤ 10 := szF_range 9 x
theorem szF_mono : ∀ (f x y : Nat), x ≤ y → szF f x ≤ szF f y
  | 0, x, y, h => by simp [szF]
  | f + 1, x, y, h => by
    have := szF_mono f (x / 128) (y / 128) (Nat.div_le_div_right h)
    have := szF_range f (y / 128)
    unfold szF
    split <;> split <;> omega
theorem sz_mono (x y : Nat) (h : x ≤ y) : sz x ≤ sz y := szF_mono 9 x y h

/-- n is the number of bits of x. -/
def IsLen (x n : Int) : Prop := 0 ≤ n ∧ n ≤ 64 ∧ x < 2 ^ n.toNat ∧ (0 < n → 2 ^ (n.toNat - 1) ≤ x)
def Bl (y t : Nat) : Prop := t ≤ 8 ∧ y < 2 ^ t ∧ (0 < t → 2 ^ (t - 1) ≤ y)

abbrev TAB : ByteArray := { data := #[0, 1, 2, 2, 3, 3, 3, 3, 4, 4, 4, 4, 4, 4, 4, 4, 5, 5, 5, 5, 5, 5, 5, 5, 5, 5, 5, 5, 5, 5, 5, 5, 6, 6, 6, 6, 6, 6, 6, 6, 6, 6, 6, 6, 6, 6, 6, 6, 6, 6, 6, 6, 6, 6, 6, 6, 6, 6, 6, 6, 6, 6, 6, 6, 7, 7, 7, 7, 7, 7, 7, 7, 7, 7, 7, 7, 7, 7, 7, 7, 7, 7, 7, 7, 7, 7, 7, 7, 7, 7, 7, 7, 7, 7, 7, 7, 7, 7, 7, 7, 7, 7, 7, 7, 7, 7, 7, 7, 7, 7, 7, 7, 7, 7, 7, 7, 7, 7, 7, 7, 7, 7, 7, 7, 7, 7, 7, 7, 8, 8, 8, 8, 8, 8, 8, 8, 8, 8, 8, 8, 8, 8, 8, 8, 8, 8, 8, 8, 8, 8, 8, 8, 8, 8, 8, 8, 8, 8, 8, 8, 8, 8, 8, 8, 8, 8, 8, 8, 8, 8, 8, 8, 8, 8, 8, 8, 8, 8, 8, 8, 8, 8, 8, 8, 8, 8, 8, 8, 8, 8, 8, 8, 8, 8, 8, 8, 8, 8, 8, 8, 8, 8, 8, 8, 8, 8, 8, 8, 8, 8, 8, 8, 8, 8, 8, 8, 8, 8, 8, 8, 8, 8, 8, 8, 8, 8, 8, 8, 8, 8, 8, 8, 8, 8, 8, 8, 8, 8, 8, 8, 8, 8, 8, 8, 8, 8, 8, 8, 8, 8, 8, 8, 8, 8, 8, 8] }
theorem byte_getD (b : ByteArray) (i : Nat) (h : i < b.size) : b[i] = b.data.toList.getD i 0 := by
  have h' : i < b.data.toList.length := by simpa using h
  simp only [List.getD, List.getElem?_eq_getElem h', Option.getD_some]
  rfl
def tabOk (i : Nat) : Bool := (TAB.data.toList.getD i 0).toNat ≤ 8 && i < 2 ^ (TAB.data.toList.getD i 0).toNat && ((TAB.data.toList.getD i 0).toNat == 0 || 2 ^ ((TAB.data.toList.getD i 0).toNat - 1) ≤ i)
theorem tab_all : (List.range 256).all tabOk = true := by decide +kernel
theorem tab_size : TAB.size = 256 := by decide +kernel
theorem tab (i : Nat) (h : i < TAB.size) : Bl i (TAB[i]).toNat := by
  have h1 : tabOk i = true := List.all_eq_true.1 tab_all i (List.mem_range.2 (tab_size ▸ h))
  rw [byte_getD TAB i h]
  unfold tabOk at h1
  generalize (TAB.data.toList.getD i 0).toNat = t at *
  simp only [Bool.and_eq_true, Bool.or_eq_true, decide_eq_true_eq, beq_iff_eq] at h1
  exact ⟨h1.1.1, h1.1.2, fun h => by rcases h1.2 with h2 | h2 <;> omega⟩

theorem isLen_of (x : Int) (d k t : Nat) (h0 : 0 ≤ x) (hk : k ≤ 56) (hd : d = 2 ^ k) (hpos : 0 < k → d ≤ x) (hb : Bl ((x / (d : Int)).toNat) t) : IsLen x ((k : Int) + t) := by
  obtain ⟨x, rfl⟩ := Int.eq_ofNat_of_zero_le h0
  obtain ⟨h1, h2, h3⟩ := hb
  subst hd
  have e1 : ((x : Int) / ((2 ^ k : Nat) : Int)).toNat = x / 2 ^ k := by rw [← Int.natCast_ediv, Int.toNat_natCast]
  rw [e1] at h2 h3
  have e2 : ((k : Int) + t).toNat = k + t := by omega
  have hp : 0 < 2 ^ k := Nat.pow_pos (by omega)
  refine ⟨by omega, by omega, ?_, ?_⟩
  · rw [e2]
    have : x < 2 ^ (k + t) := by
      rw [Nat.pow_add]
      exact (Nat.div_lt_iff_lt_mul hp).1 h2 |> fun h => by rw [Nat.mul_comm]; exact h
    exact_mod_cast this
  · intro hpos'
    rw [e2]
    by_cases ht : 0 < t
    · have h4 := h3 ht
      rw [Nat.le_div_iff_mul_le hp, ← Nat.pow_add] at h4
      have : k + t - 1 = t - 1 + k := by omega
      rw [this]
      exact_mod_cast h4
    · have ht0 : t = 0 := by omega
      subst ht0
      have hk0 : 0 < k := by omega
      have h5 := hpos hk0
      have h6 : x / 2 ^ k < 1 := by simpa using h2
      have h7 : 2 ^ k ≤ x := by exact_mod_cast h5
      have := Nat.div_pos h7 hp
      omega

theorem sz_of_len (x : Nat) (n : Int) (h : IsLen x n) : ((max n 1 + 7 - 1) / 7) = ((sz x : Nat) : Int) := by
  obtain ⟨h0, h1, h2, h3⟩ := h
  obtain ⟨n, rfl⟩ := Int.eq_ofNat_of_zero_le h0
  rw [Int.toNat_natCast] at h2 h3
  have h2' : x < 2 ^ n := by exact_mod_cast h2
  have hs : sz x = (max n 1 + 6) / 7 := by
    refine szF_unique 9 x ((max n 1 + 6) / 7) (by omega) (by omega) ?_ ?_
    · rw [show (128 : Nat) = 2 ^ 7 from rfl, ← Nat.pow_mul]
      exact Nat.lt_of_lt_of_le h2' (Nat.pow_le_pow_right (by omega) (by omega))
    · intro hs
      have h3' : 2 ^ (n - 1) ≤ x := by exact_mod_cast h3 (by omega)
      rw [show (128 : Nat) = 2 ^ 7 from rfl, ← Nat.pow_mul]
      exact Nat.le_trans (Nat.pow_le_pow_right (by omega) (by omega)) h3'
  rw [hs]
  omega
end Go.Proofs.Ytbinnpadmajgpaa.V
