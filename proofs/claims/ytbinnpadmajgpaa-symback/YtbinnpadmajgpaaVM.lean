/-
  Mathematics for the bytes of a set of labels: what they are, and reading them as a function of what is left.
-/
import Derived.Test.YtbinnpadmajgpaaVNumB
import Derived.Laws.BytesArg
namespace Go.Proofs.Ytbinnpadmajgpaa.V
open Go

abbrev Lb := ByteArray × ByteArray
def nums (s : ByteArray) : List Int := s.data.toList.map fun x => (x.toNat : Int)
theorem nums_len (s : ByteArray) : (nums s).length = s.size := by unfold nums; rw [List.length_map, Array.length_toList]; rfl
theorem nums_bytes (s : ByteArray) : ∀ x ∈ nums s, 0 ≤ x ∧ x ≤ 255 := by
  intro x hx
  simp only [nums, List.mem_map] at hx
  obtain ⟨b, _, rfl⟩ := hx
  have := b.toNat_lt
  omega
theorem str_nums (s : ByteArray) : strOfNums (nums s) = s := by
  unfold strOfNums nums
  rw [List.map_map]
  have : ((fun n : Int => UInt8.ofNat n.toNat) ∘ fun x : UInt8 => (x.toNat : Int)) = id := by
    funext x; simp
  rw [this, List.map_id]
theorem nums_str (l : List Int) (h : ∀ x ∈ l, 0 ≤ x ∧ x ≤ 255) : nums (strOfNums l) = l := by
  unfold strOfNums nums
  simp only [List.map_map]
  conv => rhs; rw [← List.map_id l]
  apply List.map_congr_left
  intro x hx
  have := h x hx
  simp only [Function.comp, id]
  rw [UInt8.toNat_ofNat_of_lt' (by simp [UInt8.size]; omega)]
  omega

def pb (x : List Int) : List Int := enc x.length ++ x
def lb (x : Lb) : List Int := pb (nums x.1) ++ pb (nums x.2)
def lbs : List Lb → List Int
  | [] => []
  | x :: r => lb x ++ lbs r
def bytesL (R : List Lb) : List Int := enc R.length ++ lbs R
theorem lbs_snoc : ∀ (R : List Lb) (x : Lb), lbs (R ++ [x]) = lbs R ++ lb x
  | [], x => by simp [lbs]
  | y :: r, x => by simp only [List.cons_append, lbs, lbs_snoc r x, List.append_assoc]

open Classical in
noncomputable def rn (t : List Int) : Option (Nat × Nat) := if fs t = 0 then none else if good (t.take (fs t)) then some (dec (t.take (fs t)), fs t) else none
noncomputable def rb (t : List Int) : Option (List Int × Nat) := match rn t with
  | none => none
  | some (n, k) => if n ≤ 65536 ∧ k + n ≤ t.length then some ((t.drop k).take n, k + n) else none
noncomputable def rl (t : List Int) : Option (Lb × Nat) := match rb t with
  | none => none
  | some (x, k) => match rb (t.drop k) with
    | none => none
    | some (y, m) => some ((strOfNums x, strOfNums y), k + m)
noncomputable def rls : Nat → List Int → Option (List Lb × Nat)
  | 0, _ => some ([], 0)
  | n + 1, t => match rl t with
    | none => none
    | some (x, k) => match rls n (t.drop k) with
      | none => none
      | some (X, m) => some (x :: X, k + m)

theorem rn_enc (n : Nat) (r : List Int) (h : n < 18446744073709551616) : rn (enc n ++ r) = some (n, (enc n).length) := by
  have h1 : fs (enc n ++ r) = (enc n).length := by rw [enc_length]; exact fs_encF 9 n r (by omega)
  have h2 : (enc n ++ r).take (fs (enc n ++ r)) = enc n := by rw [h1, List.take_left']; rfl
  have h3 := (sz_range n).1
  unfold rn
  rw [if_neg (by rw [h1, enc_length]; omega), h2, if_pos (good_enc n h), h1]
  rw [show dec (enc n) = n from dec_encF 9 n (by omega)]
theorem enc_rn {t : List Int} (hb : ∀ x ∈ t, 0 ≤ x ∧ x ≤ 255) {n k : Nat} (h : rn t = some (n, k)) : t.take k = enc n ∧ k ≤ t.length ∧ 1 ≤ k ∧ n < 18446744073709551616 := by
  unfold rn at h
  split at h
  · cases h
  · rename_i h0
    split at h
    · rename_i hg
      simp only [Option.some.injEq, Prod.mk.injEq] at h
      obtain ⟨rfl, rfl⟩ := h
      have hN := num_of_fs t h0
      have hle := fs_le t
      have hcb : ∀ x ∈ t.take (fs t), 0 ≤ x ∧ x ≤ 255 := fun x hx => hb x (List.mem_of_mem_take hx)
      have hlen : (t.take (fs t)).length = fs t := by rw [List.length_take]; omega
      have htop : 0 ≤ top (t.take (fs t)) := by
        unfold top
        rw [List.getD, List.getElem?_eq_getElem (by omega)]
        exact (hcb _ (List.getElem_mem _)).1
      refine ⟨?_, hle, by omega, dec_bound _ hg htop hN.pos⟩
      exact (enc_dec _ 9 hN hcb (fun h1 h2 => hg.1 ⟨h1, h2⟩) (by have := hg.2.1; omega)).symm
    · cases h
theorem rb_pb (x r : List Int) (h : x.length ≤ 65536) : rb (pb x ++ r) = some (x, (pb x).length) := by
  unfold rb pb
  rw [List.append_assoc, rn_enc _ _ (by omega)]
  simp only
  rw [if_pos (by simp; omega)]
  simp
theorem pb_rb {t : List Int} (hb : ∀ x ∈ t, 0 ≤ x ∧ x ≤ 255) {x : List Int} {k : Nat} (h : rb t = some (x, k)) : t.take k = pb x ∧ k ≤ t.length ∧ 1 ≤ k ∧ x.length ≤ 65536 ∧ ∀ y ∈ x, 0 ≤ y ∧ y ≤ 255 := by
  unfold rb at h
  split at h
  · cases h
  · rename_i n k' hn
    obtain ⟨e1, e2, e3, _⟩ := enc_rn hb hn
    split at h
    · rename_i hc
      simp only [Option.some.injEq, Prod.mk.injEq] at h
      obtain ⟨rfl, rfl⟩ := h
      have hl : ((t.drop k').take n).length = n := by rw [List.length_take, List.length_drop]; omega
      refine ⟨?_, hc.2, by omega, by omega, fun y hy => hb y (List.mem_of_mem_drop (List.mem_of_mem_take hy))⟩
      unfold pb
      rw [hl, ← e1, List.take_add]
    · cases h
theorem rl_lb (x : Lb) (r : List Int) (h1 : x.1.size ≤ 65536) (h2 : x.2.size ≤ 65536) : rl (lb x ++ r) = some (x, (lb x).length) := by
  unfold rl lb
  rw [List.append_assoc, rb_pb _ _ (by rw [nums_len]; exact h1)]
  simp only [List.drop_left]
  rw [rb_pb _ _ (by rw [nums_len]; exact h2)]
  simp [str_nums]
theorem lb_rl {t : List Int} (hb : ∀ x ∈ t, 0 ≤ x ∧ x ≤ 255) {x : Lb} {k : Nat} (h : rl t = some (x, k)) : t.take k = lb x ∧ k ≤ t.length ∧ 2 ≤ k := by
  unfold rl at h
  split at h
  · cases h
  · rename_i y k1 hy
    obtain ⟨e1, e2, e3, _, e4⟩ := pb_rb hb hy
    split at h
    · cases h
    · rename_i z k2 hz
      obtain ⟨f1, f2, f3, _, f4⟩ := pb_rb (fun a ha => hb a (List.mem_of_mem_drop ha)) hz
      simp only [Option.some.injEq, Prod.mk.injEq] at h
      obtain ⟨rfl, rfl⟩ := h
      rw [List.length_drop] at f2
      refine ⟨?_, by omega, by omega⟩
      unfold lb
      simp only [nums_str _ e4, nums_str _ f4]
      rw [List.take_add, e1, f1]
theorem rls_lbs : ∀ (R : List Lb) (r : List Int), (∀ x ∈ R, x.1.size ≤ 65536 ∧ x.2.size ≤ 65536) → rls R.length (lbs R ++ r) = some (R, (lbs R).length)
  | [], r, _ => rfl
  | x :: R, r, h => by
    have hx := h x (by simp)
    simp only [List.length_cons, rls, lbs]
    rw [List.append_assoc, rl_lb x _ hx.1 hx.2]
    simp only [List.drop_left]
    rw [rls_lbs R r (fun y hy => h y (by simp [hy]))]
    simp
theorem lbs_rls : ∀ (n : Nat) (t : List Int), (∀ x ∈ t, 0 ≤ x ∧ x ≤ 255) → ∀ (X : List Lb) (k : Nat), rls n t = some (X, k) → X.length = n ∧ t.take k = lbs X ∧ k ≤ t.length ∧ 2 * n ≤ k
  | 0, t, _, X, k, h => by
    simp only [rls, Option.some.injEq, Prod.mk.injEq] at h
    obtain ⟨rfl, rfl⟩ := h
    exact ⟨rfl, rfl, Nat.zero_le _, Nat.zero_le _⟩
  | n + 1, t, hb, X, k, h => by
    simp only [rls] at h
    split at h
    · cases h
    · rename_i x k1 hx
      obtain ⟨e1, e2, e3⟩ := lb_rl hb hx
      split at h
      · cases h
      · rename_i Y k2 hY
        obtain ⟨f0, f1, f2, f3⟩ := lbs_rls n (t.drop k1) (fun a ha => hb a (List.mem_of_mem_drop ha)) Y k2 hY
        simp only [Option.some.injEq, Prod.mk.injEq] at h
        obtain ⟨rfl, rfl⟩ := h
        rw [List.length_drop] at f2
        refine ⟨by simp [f0], ?_, by omega, by omega⟩
        rw [List.take_add, e1, f1]; rfl
theorem rls_snoc : ∀ (i : Nat) (t : List Int) (X : List Lb) (p : Nat) (x : Lb) (k : Nat), rls i t = some (X, p) → rl (t.drop p) = some (x, k) → rls (i + 1) t = some (X ++ [x], p + k)
  | 0, t, X, p, x, k, h, hx => by
    simp only [rls, Option.some.injEq, Prod.mk.injEq] at h
    obtain ⟨rfl, rfl⟩ := h
    simp only [List.drop_zero] at hx
    simp [rls, hx]
  | i + 1, t, X, p, x, k, h, hx => by
    rw [rls] at h
    split at h
    · cases h
    · rename_i y k1 hy
      split at h
      · cases h
      · rename_i Y k2 hY
        simp only [Option.some.injEq, Prod.mk.injEq] at h
        obtain ⟨rfl, rfl⟩ := h
        have ih := rls_snoc i (t.drop k1) Y k2 x k hY (by rw [List.drop_drop]; exact hx)
        rw [rls, hy]
        simp only
        rw [ih]
        simp [Nat.add_assoc]
theorem rls_stop : ∀ (i : Nat) (t : List Int) (X : List Lb) (p n : Nat), rls i t = some (X, p) → rl (t.drop p) = none → i < n → rls n t = none
  | 0, t, X, p, n + 1, h, hx, _ => by
    simp only [rls, Option.some.injEq, Prod.mk.injEq] at h
    obtain ⟨rfl, rfl⟩ := h
    simp only [List.drop_zero] at hx
    simp [rls, hx]
  | i + 1, t, X, p, n + 1, h, hx, hn => by
    rw [rls] at h
    split at h
    · cases h
    · rename_i y k1 hy
      split at h
      · cases h
      · rename_i Y k2 hY
        simp only [Option.some.injEq, Prod.mk.injEq] at h
        obtain ⟨rfl, rfl⟩ := h
        have ih := rls_stop i (t.drop k1) Y k2 n hY (by rw [List.drop_drop]; exact hx) (by omega)
        rw [rls, hy]
        simp only
        rw [ih]
end Go.Proofs.Ytbinnpadmajgpaa.V
