/-
  Mathematics: a quoted text is read as its bytes.
-/
import Derived.Test.YtnbhpojcckhlmaaDoorQC
import Derived.Test.YtnbhpojcckhlmaaDoorO
namespace Go.Proofs.YtnbhpojcckhlmaaDoor
open Go.RowKit
set_option linter.unusedVariables false
set_option linter.unusedSimpArgs false

/-- The set of one byte. -/
def sg (c : UInt8) : S4 := span c.toNat c.toNat
def lvs : List UInt8 → Fo
  | [] => .nil
  | c :: l => .cons ⟨1, sg c, 0, 0⟩ .nil (lvs l)
theorem lvs_snoc (c : UInt8) : ∀ l, lvs (l ++ [c]) = (lvs l).snoc (leaf (sg c))
  | [] => rfl
  | a :: l => by simp [lvs, Fo.snoc, lvs_snoc c l]
theorem lvs_len : ∀ l, (lvs l).len = l.length
  | [] => rfl
  | a :: l => by simp [lvs, Fo.len, lvs_len l]
theorem bt_list (s : ByteArray) (k : Nat) : bt s k = ((s.data.toList.getD k 0).toNat : Int) := by
  unfold bt
  split
  · rename_i h
    rw [List.getD_eq_getElem?_getD, at_toList h]; rfl
  · rename_i h
    rw [List.getD_eq_getElem?_getD, List.getElem?_eq_none (by rw [Array.length_toList]; exact Nat.le_of_not_lt h)]; rfl
theorem bt_mid {s : ByteArray} {A B : List UInt8} (h : s.data.toList = A ++ B) (i : Nat) : bt s (A.length + i) = ((B.getD i 0).toNat : Int) := by
  rw [bt_list, h, List.getD_eq_getElem?_getD, List.getElem?_append_right (by omega), List.getD_eq_getElem?_getD, Nat.add_sub_cancel_left]
theorem all_bytes {p : UInt8 → Prop} (h : ∀ n : Fin 256, p (UInt8.ofNat n.1)) (c : UInt8) : p c := by
  have := h ⟨c.toNat, u8_lt c⟩
  rwa [show UInt8.ofNat c.toNat = c from UInt8.ofNat_toNat] at this
/-- What a byte is that stands for itself. -/
def okP (n : Nat) : Bool := decide (32 ≤ n) && decide (n ≤ 126) && !([124, 41, 40, 46, 91, 92, 123, 63, 43, 42].contains n) && !(bads.contains (n : Int))
theorem plain_ok (c : UInt8) (h : plB c = true) : okP c.toNat = true := by
  revert h
  exact all_bytes (p := fun c => plB c = true → okP c.toNat = true) (by decide +kernel) c
theorem okP_out {n : Nat} (h : okP n = true) : 32 ≤ n ∧ n ≤ 126 ∧ n ≠ 124 ∧ n ≠ 41 ∧ n ≠ 40 ∧ n ≠ 46 ∧ n ≠ 91 ∧ n ≠ 92 ∧ n ≠ 123 ∧ n ≠ 63 ∧ n ≠ 43 ∧ n ≠ 42 ∧ ¬ ((n : Int) ∈ bads) := by
  simp only [okP, Bool.and_eq_true, decide_eq_true_eq, Bool.not_eq_true', List.contains_eq_mem, decide_eq_false_iff_not] at h
  obtain ⟨⟨⟨h1, h2⟩, h3⟩, h4⟩ := h
  simp only [List.mem_cons, List.not_mem_nil, or_false, not_or] at h3
  exact ⟨h1, h2, h3.1, h3.2.1, h3.2.2.1, h3.2.2.2.1, h3.2.2.2.2.1, h3.2.2.2.2.2.1, h3.2.2.2.2.2.2.1, h3.2.2.2.2.2.2.2.1, h3.2.2.2.2.2.2.2.2.1, h3.2.2.2.2.2.2.2.2.2, h4⟩
theorem hx_dg : ∀ n : Fin 16, hx ((dg n.1).toNat : Int) = some (n.1 : Int) := by decide +kernel
theorem quo_cons (c : UInt8) (l : List UInt8) : quo (c :: l) = qc c ++ quo l := by simp [quo]
theorem quo_ge (l : List UInt8) : l.length ≤ (quo l).length := by
  induction l with
  | nil => simp [quo]
  | cons a l ih =>
    have h1 : 1 ≤ (qc a).length := by unfold qc; split <;> simp
    rw [quo_cons]; simp; omega
/-- The byte that comes next is no times. -/
theorem next_ok (l : List UInt8) : ((quo l).getD 0 0).toNat ≠ 123 ∧ ((quo l).getD 0 0).toNat ≠ 63 ∧ ((quo l).getD 0 0).toNat ≠ 43 ∧ ((quo l).getD 0 0).toNat ≠ 42 := by
  cases l with
  | nil => simp [quo]
  | cons c l =>
    rw [quo_cons]
    unfold qc
    split
    · rename_i h
      have := okP_out (plain_ok c h)
      simp only [List.cons_append, List.nil_append, List.getD_cons_zero]
      omega
    · simp
theorem times_none {s : ByteArray} {a : Nat} {n : Nat} (h : bt s a = (n : Int)) (h2 : n ≠ 123 ∧ n ≠ 63 ∧ n ≠ 43 ∧ n ≠ 42) : timesR s a = ((0, 0, 0), a, true) := by
  unfold timesR
  rw [h, if_neg (by omega), if_neg (by omega), if_neg (by omega), if_neg (by omega)]
theorem set_quo {s : ByteArray} {A l : List UInt8} {c : UInt8} (h : s.data.toList = A ++ (qc c ++ quo l)) :
    A.length < s.size ∧ bt s A.length ≠ 124 ∧ bt s A.length ≠ 41 ∧ bt s A.length ≠ 40 ∧ setR s A.length = (sg c, A.length + (qc c).length, true) := by
  have hsz : s.size = A.length + ((qc c).length + (quo l).length) := by
    have := congrArg List.length h
    rw [Array.length_toList] at this
    simpa using this
  have b := fun i => bt_mid h i
  by_cases hp : plB c = true
  · have hq : qc c = [c] := by simp [qc, hp]
    rw [hq] at b hsz
    rw [hq]
    have b0 := b 0
    simp only [List.cons_append, List.nil_append, List.getD_cons_zero, Nat.add_zero] at b0
    obtain ⟨h1, h2, h3, h4, h5, h6, h7, h8, h9, h10, h11, h12, h13⟩ := okP_out (plain_ok c hp)
    refine ⟨by simp at hsz; omega, by rw [b0]; omega, by rw [b0]; omega, by rw [b0]; omega, ?_⟩
    unfold setR plR
    rw [b0, if_neg (by omega), if_neg (by omega), if_neg (by omega), if_neg h13, if_neg (by omega)]
    rfl
  · have hq : qc c = [92, 120, dg (c.toNat / 16), dg (c.toNat % 16)] := by simp [qc, hp]
    rw [hq] at b hsz
    rw [hq]
    have b0 := b 0
    have b1 := b 1
    have b2 := b 2
    have b3 := b 3
    simp only [List.cons_append, List.nil_append, List.getD_cons_zero, List.getD_cons_succ, Nat.add_zero] at b0 b1 b2 b3
    have hc := u8_lt c
    have hh := hx_dg ⟨c.toNat / 16, by omega⟩
    have hl := hx_dg ⟨c.toNat % 16, by omega⟩
    simp only at hh hl
    have e0 : bt s A.length = 92 := b0
    have e1 : bt s (A.length + 1) = 120 := b1
    refine ⟨by simp at hsz; omega, by rw [e0]; omega, by rw [e0]; omega, by rw [e0]; omega, ?_⟩
    unfold setR escR hexR
    rw [e0, e1, if_neg (by omega), if_neg (by omega), if_pos rfl, if_pos rfl, b2, hh]
    simp only
    rw [show A.length + 2 + 1 = A.length + 3 from rfl, b3, hl]
    simp only
    have e : (((c.toNat / 16 : Nat) : Int) * 16 + ((c.toNat % 16 : Nat) : Int)).toNat = c.toNat := by omega
    rw [e]
    rfl
theorem seq_quo (br : Nat → Out) (q : ByteArray) : ∀ (l done : List UInt8) (n : Nat), q.data.toList = quo done ++ quo l → l.length < n → seqL br q n (lvs done) (quo done).length = .ok (lvs (done ++ l), q.size)
  | [], done, 0, _, hn => by simp at hn
  | [], done, n + 1, h, hn => by
    have hsz : q.size = (quo done).length := by
      have := congrArg List.length h
      rw [Array.length_toList] at this
      simpa [quo] using this
    unfold seqL
    rw [if_neg (by omega), List.append_nil, hsz]
  | c :: l, done, 0, _, hn => by simp at hn
  | c :: l, done, n + 1, h, hn => by
    rw [quo_cons] at h
    obtain ⟨h1, h2, h3, h4, h5⟩ := set_quo h
    have h' : q.data.toList = (quo done ++ qc c) ++ quo l := by rw [List.append_assoc]; exact h
    have hb := bt_mid h' 0
    rw [List.length_append, Nat.add_zero] at hb
    have ht := times_none hb (next_ok l)
    have ha : atomM br q (quo done).length = .ok (leaf (sg c), (quo done).length + (qc c).length) := by
      unfold atomM
      rw [if_neg h4, h5]
      simp
    have hp : pieceM br q (quo done).length = .ok (leaf (sg c), (quo done).length + (qc c).length) := by
      unfold pieceM
      rw [ha]
      simp only
      rw [ht]
      simp
    have ih := seq_quo br q l (done ++ [c]) n (by rw [quo_snoc]; exact h') (by simp at hn; omega)
    unfold seqL
    rw [if_pos ⟨h1, h2, h3⟩, hp]
    simp only
    rw [lvs_snoc, quo_snoc, List.length_append] at ih
    rw [ih, List.append_assoc]
    rfl
theorem tog_one (k : Int) (t : Tr) : tog k (Fo.nil.snoc t) = t := rfl
/-- A quoted text is read as its bytes. -/
theorem parse_quo (l : List UInt8) : parseM ⟨(quo l).toArray⟩ = .ok (tog 2 (lvs l)) := by
  obtain ⟨q, hq⟩ : ∃ q : ByteArray, q = ⟨(quo l).toArray⟩ := ⟨_, rfl⟩
  rw [← hq]
  have hd : q.data.toList = quo [] ++ quo l := by rw [hq]; simp [quo]
  have hsz : q.size = (quo l).length := by rw [hq]; simp [ByteArray.size]
  have hs := seq_quo (brM q 32) q l [] (q.size + 1) hd (by have := quo_ge l; omega)
  have hs2 : seqM (brM q 32) q 0 = .ok (tog 2 (lvs l), q.size) := by
    unfold seqM
    have : seqL (brM q 32) q (q.size + 1 - 0) .nil 0 = .ok (lvs l, q.size) := hs
    rw [this]
  have hb : bt q q.size = 0 := by unfold bt; rw [dif_neg (by omega)]
  have ha : altM (brM q 32) q 0 = .ok (tog 2 (lvs l), q.size) := by
    unfold altM
    rw [hs2]
    simp only
    rw [show q.size + 1 - q.size = 1 by omega]
    unfold altL
    rw [hb, if_neg (by omega)]
    simp only
    rw [tog_one]
  unfold parseM
  rw [ha]
  simp
theorem only_sg : ∀ c : UInt8, only (sg c) = some (c.toNat : Int) := all_bytes (by decide +kernel)
end Go.Proofs.YtnbhpojcckhlmaaDoor
