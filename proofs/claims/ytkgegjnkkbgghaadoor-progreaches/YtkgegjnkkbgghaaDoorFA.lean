/-
  Mathematics: going from each instruction to the next ones comes to all of a program.
-/
import Derived.Test.YtkgegjnkkbgghaaDoorDR
import Derived.Test.YtkgegjnkkbgghaaDoorDS
namespace Go.Proofs.YtkgegjnkkbgghaaDoor
open Go.RowKit Go.Shelf Go.Lib
set_option linter.unusedVariables false
set_option linter.unusedSimpArgs false

/-- Between two steps: which ones were come to, what is left to do, how many steps were done. -/
structure RcI (L : List Ins) (B : List Bool) (q : List Int) (i : Nat) : Prop where
  bl : B.length = L.length
  qin : ∀ z ∈ q, 0 ≤ z ∧ z < (L.length : Int)
  z0 : (0 : Int) ∈ q ∨ B[0]? = some true
  cl : ∀ (k : Nat) (x : Ins), B[k]? = some true → L[k]? = some x → (x.op ≠ 3 → x.x ∈ q ∨ B[x.x.toNat]? = some true) ∧ (x.op = 2 → x.y ∈ q ∨ B[x.y.toNat]? = some true)
  cnt : i + q.length ≤ 1 + 2 * B.count true
/-- What is put behind the queue. -/
def nxt (x : Ins) : List Int := (if x.op ≠ 3 then [x.x] else []) ++ (if x.op = 2 then [x.y] else [])
theorem set_true {B : List Bool} {k j : Nat} (h : B[j]? = some true) : (B.set k true)[j]? = some true := by
  rw [List.getElem?_set]
  split
  · rename_i e; subst e
    rw [if_pos (List.getElem?_eq_some_iff.1 h).1]
  · exact h
theorem set_same {B : List Bool} {k : Nat} (h : k < B.length) : (B.set k true)[k]? = some true := by simp [h]
theorem count_set : ∀ {B : List Bool} {k : Nat}, B[k]? = some false → (B.set k true).count true = B.count true + 1
  | [], k, h => by simp at h
  | b :: r, 0, h => by
    simp only [List.getElem?_cons_zero, Option.some.injEq] at h
    subst h
    simp
  | b :: r, k + 1, h => by
    have := count_set (B := r) (k := k) (by simpa using h)
    simp only [List.set_cons_succ, List.count_cons, this]
    omega
theorem RcI.old {L : List Ins} {B : List Bool} {z : Int} {q : List Int} {i : Nat} (h : RcI L B (z :: q) i) (hz : B[z.toNat]? = some true) : RcI L B q (i + 1) := by
  refine ⟨h.bl, fun y hy => h.qin y (List.mem_cons_of_mem _ hy), ?_, fun k x hk hx => ?_, ?_⟩
  · rcases h.z0 with h0 | h0
    · rcases List.mem_cons.1 h0 with h0 | h0
      · subst h0; exact .inr hz
      · exact .inl h0
    · exact .inr h0
  · have := h.cl k x hk hx
    refine ⟨fun ho => ?_, fun ho => ?_⟩
    · rcases this.1 ho with h1 | h1
      · rcases List.mem_cons.1 h1 with h1 | h1
        · rw [h1]; exact .inr hz
        · exact .inl h1
      · exact .inr h1
    · rcases this.2 ho with h1 | h1
      · rcases List.mem_cons.1 h1 with h1 | h1
        · rw [h1]; exact .inr hz
        · exact .inl h1
      · exact .inr h1
  · have := h.cnt
    simp only [List.length_cons] at this
    omega
theorem RcI.new {L : List Ins} {B : List Bool} {z : Int} {q : List Int} {i : Nat} {x : Ins} (h : RcI L B (z :: q) i) (hz : B[z.toNat]? = some false) (hx : L[z.toNat]? = some x) (hf : ∀ x ∈ L, (0 ≤ x.x ∧ x.x < (L.length : Int)) ∧ (0 ≤ x.y ∧ x.y < (L.length : Int))) : RcI L (B.set z.toNat true) (q ++ nxt x) (i + 1) := by
  have hlt := (List.getElem?_eq_some_iff.1 hz).1
  have hin : ∀ y, y ∈ z :: q ∨ B[y.toNat]? = some true → y ∈ q ++ nxt x ∨ (B.set z.toNat true)[y.toNat]? = some true := fun y hy => by
    rcases hy with hy | hy
    · rcases List.mem_cons.1 hy with hy | hy
      · subst hy; exact .inr (set_same hlt)
      · exact .inl (List.mem_append.2 (.inl hy))
    · exact .inr (set_true hy)
  refine ⟨by rw [List.length_set]; exact h.bl, fun y hy => ?_, ?_, fun k u hk hu => ?_, ?_⟩
  · rcases List.mem_append.1 hy with hy | hy
    · exact h.qin y (List.mem_cons_of_mem _ hy)
    · have := hf x (List.mem_of_getElem? hx)
      unfold nxt at hy
      rcases List.mem_append.1 hy with hy | hy
      · split at hy
        · rw [List.mem_singleton.1 hy]; exact this.1
        · cases hy
      · split at hy
        · rw [List.mem_singleton.1 hy]; exact this.2
        · cases hy
  · have := hin 0 (by simpa using h.z0)
    simpa using this
  · by_cases hkz : k = z.toNat
    · subst hkz
      rw [hx] at hu
      cases hu
      refine ⟨fun ho => .inl (List.mem_append.2 (.inr ?_)), fun ho => .inl (List.mem_append.2 (.inr ?_))⟩
      · unfold nxt; rw [if_pos ho]; simp
      · unfold nxt; rw [if_pos ho]; simp
    · rw [List.getElem?_set_ne (fun e => hkz e.symm)] at hk
      have := h.cl k u hk hu
      exact ⟨fun ho => hin _ (this.1 ho), fun ho => hin _ (this.2 ho)⟩
  · have h1 := h.cnt
    have h2 := count_set hz
    simp only [List.length_cons] at h1
    rw [h2, List.length_append]
    have h3 : (nxt x).length ≤ 2 := by
      unfold nxt
      rw [List.length_append]
      split <;> split <;> simp
    omega
theorem RcI.start {L : List Ins} (h : 1 ≤ L.length) : RcI L (List.replicate L.length false) [0] 0 := by
  have hn : ∀ k, ¬ ((List.replicate L.length false)[k]? = some true) := fun k hk => by
    have := List.mem_of_getElem? hk
    rw [List.mem_replicate] at this
    cases this.2
  refine ⟨by simp, fun z hz => ?_, .inl (by simp), fun k x hk => (hn k hk).elim, by simp⟩
  rw [List.mem_singleton.1 hz]
  omega
/-- Not all steps are needed. -/
theorem RcI.left {L : List Ins} {B : List Bool} {q : List Int} {i : Nat} (h : RcI L B q i) (h2 : 2 ≤ L.length) : i < 3 * L.length := by
  have h1 := h.cnt
  have h3 := List.count_le_length (a := true) (l := B)
  have h4 := h.bl
  omega
/-- When nothing is left all were come to. -/
theorem RcI.all {t : Tr} (hf : fitT t) {B : List Bool} {i : Nat} (h : RcI ((prg t).put 0 0) B [] i) : ∀ k, k < (prg t).n → B[k]? = some true := by
  have hN := cdT_nice t hf
  have hl := (cdT t).len 0 (cdT t).n
  have e := prg_put t
  rw [e] at h
  have h0 : B[0]? = some true := by
    rcases h.z0 with h0 | h0
    · cases h0
    · exact h0
  have key := hN.rch 0 (cdT t).n (fun k => B[k]? = some true) h0 (fun k x hx hk => by
    rw [Nat.zero_add] at hk
    have hkl := (List.getElem?_eq_some_iff.1 hx).1
    have hx2 : ((cdT t).put 0 (cdT t).n ++ [(⟨3, noSet, 0, 0⟩ : Ins)])[k]? = some x := by rw [List.getElem?_append_left hkl]; exact hx
    have hc := h.cl k x hk hx2
    have ho := (fit_of_ok (by simpa using hN.ops 0 (cdT t).n x (List.mem_of_getElem? hx))).2
    refine ⟨?_, fun h2 => ?_⟩
    · rcases hc.1 ho with h | h
      · cases h
      · exact h
    · rcases hc.2 h2 with h | h
      · cases h
      · exact h)
  intro k hk
  rw [prg_n] at hk
  rcases Nat.lt_or_ge k (cdT t).n with h1 | h1
  · have := key.1 k h1
    rwa [Nat.zero_add] at this
  · obtain rfl : k = (cdT t).n := by omega
    exact key.2
/-- Where the instructions of a pattern's program go. -/
theorem prg_goes (t : Tr) (hf : fitT t) (hn : (prg t).n ≤ 2048) : ∀ x ∈ (prg t).put 0 0, (0 ≤ x.x ∧ x.x < (((prg t).put 0 0).length : Int)) ∧ (0 ≤ x.y ∧ x.y < (((prg t).put 0 0).length : Int)) := by
  intro x hx
  have hl := (prg t).len 0 0
  have hp := (cdT t).pos
  have hN := cdT_nice t hf
  rw [hl, prg_n]
  rw [prg_put] at hx
  rcases List.mem_append.1 hx with hx | hx
  · have := hN.ops 0 (cdT t).n x hx
    rw [Nat.zero_add] at this
    obtain ⟨h1, h2⟩ := this
    have hx2 := tgt_in h2 (Nat.le_refl _)
    refine ⟨by omega, ?_⟩
    rcases h1 with ⟨_, hy⟩ | ⟨_, _, hy⟩ | ⟨_, _, hy⟩
    · omega
    · omega
    · have := tgt_in hy (Nat.le_refl _); omega
  · rw [List.mem_singleton.1 hx]
    simp
end Go.Proofs.YtkgegjnkkbgghaaDoor
