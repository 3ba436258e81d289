/-
  The mathematics of chunks: their bytes, and how they are read.
-/
import Derived.Test.YtmjjedbdedemcaaGreatDoorTB
import Derived.Test.YtmjjedbdedemcaaGreatDoorCC
namespace Go.Proofs.YtmjjedbdedemcaaGreatDoor
open Go.RowKit
set_option linter.unusedVariables false
set_option linter.unusedSimpArgs false

/-- The bytes of a chunk of n samples whose bits are the bytes B. -/
def chunkB (n : Nat) (B : List Int) : List Int := (enc n ++ enc B.length ++ B) ++ sumBytes (more 0 (enc n ++ enc B.length ++ B))
/-- These bytes are a chunk of these samples. -/
def IsC (l : List Sm) (c : List Int) : Prop := ∃ B, Holds B (eX z0 l) (eN z0 l) ∧ c = chunkB l.length B
theorem IsC.same {l : List Sm} {c d : List Int} (h : IsC l c) (k : IsC l d) : c = d := by
  obtain ⟨B, hB, rfl⟩ := h
  obtain ⟨B', hB', rfl⟩ := k
  rw [hB.same hB']
/-- Samples that may be a chunk. -/
structure Fit (l : List Sm) : Prop where
  ok : OkL z0 l
  lo : 1 ≤ l.length
  hi : l.length ≤ 120
noncomputable def ms (l : List Int) (t : Nat) : Option (Nat × Nat × Nat) := match rn (l.drop t) with
  | none => none
  | some (n, k) => match rn (l.drop (t + k)) with
    | none => none
    | some (m, j) => if n = 0 ∨ 120 < n then none else if l.length < t + k + j + m + 4 then none else some (n, t + k + j, t + k + j + m + 4)
def upk (B : List Int) (n : Nat) : Option (List Sm) := match rdS n z0 (num B) B.length 0 with
  | none => none
  | some (ss, p) => if 8 * B.length < p + 8 ∧ rd (num B) B.length p (8 * B.length - p) = 0 then some ss else none
def sumOk (c : List Int) : Prop := numK (c.drop (c.length - 4)) 4 = more 0 (c.take (c.length - 4))
instance (c : List Int) : Decidable (sumOk c) := by unfold sumOk; exact inferInstance
noncomputable def rdc (l : List Int) (t : Nat) : Option (List Sm × Nat) := match ms l t with
  | none => none
  | some (n, f, e) => if sumOk ((l.drop t).take (e - t)) then (match upk ((l.drop f).take (e - 4 - f)) n with
    | none => none
    | some ss => some (ss, e)) else none

theorem upk_of {B : List Int} {ss : List Sm} (hB : Holds B (eX z0 ss) (eN z0 ss)) (hf : Fit ss) : upk B ss.length = some ss := by
  have h1 := hB.lo
  have h2 := hB.hi
  have hr : rd (num B) B.length 0 (eN z0 ss) = eX z0 ss := by
    rw [hB.num, rd_of_holds h1 (by omega), Nat.sub_zero, Nat.sub_self, Nat.pow_zero, Nat.div_one, Nat.mod_eq_of_lt hB.lt]
  have h3 := rdS_of ss z0 (num B) B.length 0 ok_z0 hf.ok (by have := hf.hi; simp [z0]; omega) (by omega) hr
  have h4 : rd (num B) B.length (eN z0 ss) (8 * B.length - eN z0 ss) = 0 := by
    unfold rd
    rw [hB.num, show 8 * B.length - eN z0 ss - (8 * B.length - eN z0 ss) = 0 by omega, Nat.pow_zero, Nat.div_one, Nat.mul_mod_left]
  unfold upk
  rw [h3]
  simp only [Nat.zero_add]
  rw [if_pos ⟨h2, h4⟩]
theorem upk_ok {B : List Int} {n : Nat} {ss : List Sm} (hb : ∀ x ∈ B, 0 ≤ x ∧ x ≤ 255) (hn : n ≤ 120) (h : upk B n = some ss) : ss.length = n ∧ OkL z0 ss ∧ Holds B (eX z0 ss) (eN z0 ss) := by
  unfold upk at h
  split at h
  · cases h
  · rename_i ss' p hr
    split at h
    · rename_i hc
      simp only [Option.some.injEq] at h
      subst h
      obtain ⟨r1, r2, r3, r4, r5⟩ := rdS_ok n z0 (num B) B.length 0 ss' p ok_z0 (by simp [z0]; omega) (by omega) hr
      simp only [Nat.zero_add] at r3
      subst r3
      obtain ⟨c1, c2⟩ := hc
      have hlt : num B < 2 ^ (8 * B.length) := by have := num_lt B hb; rwa [pow256] at this
      refine ⟨r1, r2, hb, r4, c1, ?_, eX_lt ss' z0 ok_z0 r2 (by simp [z0]; omega)⟩
      unfold rd at r5 c2
      rw [show 8 * B.length - eN z0 ss' - (8 * B.length - eN z0 ss') = 0 by omega, Nat.pow_zero, Nat.div_one] at c2
      rw [Nat.sub_zero, Nat.mod_eq_of_lt (Nat.div_lt_of_lt_mul (by rw [← Nat.pow_add, show 8 * B.length - eN z0 ss' + eN z0 ss' = 8 * B.length by omega]; exact hlt))] at r5
      rw [← r5]
      exact (Nat.div_mul_cancel (Nat.dvd_of_mod_eq_zero c2)).symm
    · cases h
theorem sum_numK {l : List Int} (h : ∀ x ∈ l, 0 ≤ x ∧ x ≤ 255) (hl : l.length = 4) : sumBytes (numK l 4) = l := by
  match l, hl with
  | [a, b, c, d], _ =>
    have ha := h a (by simp)
    have hb := h b (by simp)
    have hc := h c (by simp)
    have hd := h d (by simp)
    simp [sumBytes, byteOf, numK]
    refine ⟨?_, ?_, ?_, ?_⟩ <;> omega
theorem sum_len (s : Nat) : (sumBytes s).length = 4 := rfl
theorem enc_len (n : Nat) : 1 ≤ (enc n).length ∧ (enc n).length ≤ 10 := by rw [enc_length]; exact sz_range n
theorem chunkB_len (n : Nat) (B : List Int) : (chunkB n B).length = (enc n).length + (enc B.length).length + B.length + 4 := by
  unfold chunkB; simp [sum_len]; omega
theorem chunkB_bytes {n : Nat} {B : List Int} (hn : n < 18446744073709551616) (hB : B.length < 18446744073709551616) (hb : ∀ x ∈ B, 0 ≤ x ∧ x ≤ 255) : ∀ x ∈ chunkB n B, 0 ≤ x ∧ x ≤ 255 :=
  app_bytes (app_bytes (app_bytes (enc_bytes n hn) (enc_bytes _ hB)) hb) (sumBytes_bytes _)
theorem bits_len {ss : List Sm} {B : List Int} (hB : Holds B (eX z0 ss) (eN z0 ss)) (hf : Fit ss) : B.length ≤ 1951 := by
  have := hB.hi
  have := eN_le ss z0 ok_z0 hf.ok (by have := hf.hi; simp [z0]; omega)
  have := hf.hi
  omega
theorem rdc_of {ss : List Sm} {c : List Int} (hc : IsC ss c) (hf : Fit ss) (pre post : List Int) : rdc (pre ++ c ++ post) pre.length = some (ss, pre.length + c.length) := by
  obtain ⟨B, hB, rfl⟩ := hc
  have hBl := bits_len hB hf
  have hlo := hf.lo
  have hhi := hf.hi
  have hlen := chunkB_len ss.length B
  have hn : ss.length < 18446744073709551616 := by omega
  have hm : B.length < 18446744073709551616 := by omega
  obtain ⟨H, hH⟩ : ∃ H, enc ss.length ++ enc B.length ++ B = H := ⟨_, rfl⟩
  have hHl : H.length = (enc ss.length).length + (enc B.length).length + B.length := by rw [← hH]; simp; omega
  have hCB : chunkB ss.length B = H ++ sumBytes (more 0 H) := by unfold chunkB; rw [hH]
  have d0 : (pre ++ chunkB ss.length B ++ post).drop pre.length = chunkB ss.length B ++ post := by rw [List.append_assoc, List.drop_left]
  have d1 : (pre ++ chunkB ss.length B ++ post).drop (pre.length + (enc ss.length).length) = enc B.length ++ (B ++ (sumBytes (more 0 H) ++ post)) := by
    rw [← List.drop_drop, d0, hCB]
    generalize sumBytes (more 0 H) = Y
    rw [← hH]
    simp only [List.append_assoc]
    rw [List.drop_left]
  have d2 : (pre ++ chunkB ss.length B ++ post).drop (pre.length + (enc ss.length).length + (enc B.length).length) = B ++ (sumBytes (more 0 H) ++ post) := by
    rw [← List.drop_drop, d1, List.drop_left]
  have r0 : rn ((pre ++ chunkB ss.length B ++ post).drop pre.length) = some (ss.length, (enc ss.length).length) := by
    rw [d0, hCB]
    generalize sumBytes (more 0 H) = Y
    rw [← hH]
    simp only [List.append_assoc]
    exact rn_enc _ _ hn
  have r1 : rn ((pre ++ chunkB ss.length B ++ post).drop (pre.length + (enc ss.length).length)) = some (B.length, (enc B.length).length) := by
    rw [d1]; exact rn_enc _ _ hm
  have hms : ms (pre ++ chunkB ss.length B ++ post) pre.length = some (ss.length, pre.length + (enc ss.length).length + (enc B.length).length, pre.length + (enc ss.length).length + (enc B.length).length + B.length + 4) := by
    unfold ms
    rw [r0]
    simp only
    rw [r1]
    simp only
    rw [if_neg (by omega), if_neg (by simp only [List.length_append, hlen]; omega)]
  have hend : pre.length + (enc ss.length).length + (enc B.length).length + B.length + 4 = pre.length + (chunkB ss.length B).length := by rw [hlen]; omega
  have ht : ((pre ++ chunkB ss.length B ++ post).drop pre.length).take (pre.length + (chunkB ss.length B).length - pre.length) = chunkB ss.length B := by
    rw [d0, Nat.add_sub_cancel_left, List.take_left]
  have hs : sumOk (chunkB ss.length B) := by
    unfold sumOk
    rw [hCB, List.length_append, sum_len, Nat.add_sub_cancel, List.drop_left, List.take_left]
    exact numK_sum (more_lt (by decide) (fun x hx => by
      rw [← hH] at hx
      exact app_bytes (app_bytes (enc_bytes _ hn) (enc_bytes _ hm)) hB.bytes x hx))
  have hb : ((pre ++ chunkB ss.length B ++ post).drop (pre.length + (enc ss.length).length + (enc B.length).length)).take (pre.length + (chunkB ss.length B).length - 4 - (pre.length + (enc ss.length).length + (enc B.length).length)) = B := by
    rw [d2, hlen, show pre.length + ((enc ss.length).length + (enc B.length).length + B.length + 4) - 4 - (pre.length + (enc ss.length).length + (enc B.length).length) = B.length by omega, List.take_left]
  unfold rdc
  rw [hms, hend]
  simp only
  rw [ht, if_pos hs, hb, upk_of hB hf]
theorem rdc_ok {l : List Int} {t e : Nat} {ss : List Sm} (hb : ∀ x ∈ l, 0 ≤ x ∧ x ≤ 255) (ht : t ≤ l.length) (h : rdc l t = some (ss, e)) : Fit ss ∧ t ≤ e ∧ e ≤ l.length ∧ IsC ss ((l.drop t).take (e - t)) := by
  unfold rdc at h
  split at h
  · cases h
  · rename_i n f e' hms
    split at h
    · rename_i hs
      split at h
      · cases h
      · rename_i ss' hu
        simp only [Option.some.injEq, Prod.mk.injEq] at h
        obtain ⟨rfl, rfl⟩ := h
        unfold ms at hms
        split at hms
        · cases hms
        · rename_i n' k h1
          split at hms
          · cases hms
          · rename_i m j h2
            split at hms
            · cases hms
            · rename_i hn0
              split at hms
              · cases hms
              · rename_i hl
                simp only [Option.some.injEq, Prod.mk.injEq] at hms
                obtain ⟨rfl, rfl, rfl⟩ := hms
                obtain ⟨a1, a2, a3, a4⟩ := enc_rn (fun x hx => hb x (List.mem_of_mem_drop hx)) h1
                obtain ⟨b1, b2, b3, b4⟩ := enc_rn (fun x hx => hb x (List.mem_of_mem_drop hx)) h2
                have hn : n' ≤ 120 := by omega
                have hBl : ((l.drop (t + k + j)).take (t + k + j + m + 4 - 4 - (t + k + j))).length = m := by simp; omega
                obtain ⟨u1, u2, u3⟩ := upk_ok (fun x hx => hb x (List.mem_of_mem_drop (List.mem_of_mem_take hx))) hn hu
                refine ⟨⟨u2, by omega, by omega⟩, by omega, by omega, _, u3, ?_⟩
                rw [show t + k + j + m + 4 - 4 - (t + k + j) = m by omega] at hBl ⊢
                rw [show t + k + j + m + 4 - t = k + j + m + 4 by omega] at hs ⊢
                obtain ⟨c, hc⟩ : ∃ c, (l.drop t).take (k + j + m + 4) = c := ⟨_, rfl⟩
                have hcl : c.length = k + j + m + 4 := by rw [← hc]; simp; omega
                have hcb : ∀ x ∈ c, 0 ≤ x ∧ x ≤ 255 := fun x hx => by rw [← hc] at hx; exact hb x (List.mem_of_mem_drop (List.mem_of_mem_take hx))
                have p1 : c.take (k + j + m) = enc n' ++ enc m ++ (l.drop (t + k + j)).take m := by
                  have q1 : c.take k = enc n' := by rw [← hc, List.take_take, Nat.min_eq_left (by omega)]; exact a1
                  have q2 : (c.drop k).take j = enc m := by
                    rw [← b1, ← hc, List.drop_take, List.take_take, Nat.min_eq_left (by omega), List.drop_drop]
                  have q3 : (c.drop (k + j)).take m = (l.drop (t + k + j)).take m := by
                    rw [← hc, List.drop_take, List.take_take, Nat.min_eq_left (by omega), List.drop_drop, Nat.add_assoc]
                  rw [← q1, ← q2, ← q3, ← List.drop_drop]
                  rw [show k + j + m = k + (j + m) by omega, List.take_add, List.take_add, ← List.append_assoc]
                rw [hc] at hs ⊢
                have hsum : c.drop (k + j + m) = sumBytes (more 0 (c.take (k + j + m))) := by
                  unfold sumOk at hs
                  rw [hcl, show k + j + m + 4 - 4 = k + j + m by omega] at hs
                  rw [← hs]
                  exact (sum_numK (fun x hx => hcb x (List.mem_of_mem_drop hx)) (by rw [List.length_drop, hcl]; omega)).symm
                unfold chunkB
                rw [u1, hBl, ← p1, ← hsum, List.take_append_drop]
    · cases h
end Go.Proofs.YtmjjedbdedemcaaGreatDoor
