/-
  From which places a pattern's texts lead to which: mathematics.
-/
import Derived.Test.YthgdfgkjaepchaaDoorNA
namespace Go.Proofs.YthgdfgkjaepchaaDoor
open Go.RowKit
set_option linter.unusedVariables false
set_option linter.unusedSimpArgs false

/-- What stands from i up to j. -/
def seg (s : List Nat) (i j : Nat) : List Nat := (s.drop i).take (j - i)
theorem seg_len {s : List Nat} {i j : Nat} (h : i ≤ j) (hj : j ≤ s.length) : (seg s i j).length = j - i := by simp [seg]; omega
theorem seg_app {s : List Nat} {i k j : Nat} (h1 : i ≤ k) (h2 : k ≤ j) : seg s i j = seg s i k ++ seg s k j := by
  unfold seg
  rw [show j - i = (k - i) + (j - k) by omega, List.take_add, List.drop_drop, show i + (k - i) = k by omega]
theorem seg_cut {s u v : List Nat} {i j : Nat} (h : i ≤ j) (hj : j ≤ s.length) (e : seg s i j = u ++ v) : ∃ k, i ≤ k ∧ k ≤ j ∧ u = seg s i k ∧ v = seg s k j := by
  have hl := congrArg List.length e
  rw [seg_len h hj, List.length_append] at hl
  have hk1 : i ≤ i + u.length := by omega
  have hk2 : i + u.length ≤ j := by omega
  refine ⟨i + u.length, hk1, hk2, ?_⟩
  have e2 := seg_app (s := s) hk1 hk2
  rw [e] at e2
  have l1 : u.length = (seg s i (i + u.length)).length := by rw [seg_len hk1 (by omega)]; omega
  exact List.append_inj e2 l1
/-- B' are the places to which texts in M lead from B. -/
structure Rel (M : Lg) (s : List Nat) (B B' : List Bool) : Prop where
  len : B'.length = s.length + 1
  iff : ∀ j, j ≤ s.length → (B'[j]? = some true ↔ ∃ i, i ≤ j ∧ B[i]? = some true ∧ M (seg s i j))
theorem Rel.congr {M N : Lg} {s : List Nat} {B B' : List Bool} (h : Rel M s B B') (e : ∀ u, M u ↔ N u) : Rel N s B B' := ⟨h.len, fun j hj => by
  rw [h.iff j hj]
  constructor
  · rintro ⟨i, h1, h2, h3⟩; exact ⟨i, h1, h2, (e _).1 h3⟩
  · rintro ⟨i, h1, h2, h3⟩; exact ⟨i, h1, h2, (e _).2 h3⟩⟩
theorem Rel.eps {s : List Nat} {B : List Bool} (h : B.length = s.length + 1) : Rel eps s B B := ⟨h, fun j hj => by
  constructor
  · intro hb; exact ⟨j, Nat.le_refl _, hb, by simp [seg, Go.Proofs.YthgdfgkjaepchaaDoor.eps]⟩
  · rintro ⟨i, h1, h2, h3⟩
    have h4 : seg s i j = [] := h3
    have := congrArg List.length h4
    rw [seg_len h1 hj] at this
    obtain rfl : i = j := by simp at this; omega
    exact h2⟩
theorem Rel.cat {M N : Lg} {s : List Nat} {A B C : List Bool} (h : Rel M s A B) (k : Rel N s B C) : Rel (cat M N) s A C := ⟨k.len, fun j hj => by
  rw [k.iff j hj]
  constructor
  · rintro ⟨i, h1, h2, h3⟩
    obtain ⟨x, x1, x2, x3⟩ := (h.iff i (by omega)).1 h2
    exact ⟨x, by omega, x2, seg s x i, seg s i j, seg_app x1 h1, x3, h3⟩
  · rintro ⟨x, x1, x2, u, v, e, hu, hv⟩
    obtain ⟨i, i1, i2, rfl, rfl⟩ := seg_cut x1 hj e
    exact ⟨i, i2, (h.iff i (by omega)).2 ⟨x, i1, x2, hu⟩, hv⟩⟩
theorem Rel.pow1 {M : Lg} {s : List Nat} {A B C : List Bool} {r : Nat} (h : Rel (powM M r) s A B) (k : Rel M s B C) : Rel (powM M (r + 1)) s A C := (h.cat k).congr (fun u => by
  rw [powM_add M r 1 u]
  constructor
  · rintro ⟨x, y, e, h1, h2⟩; exact ⟨x, y, e, h1, (cat_eps M y).2 h2⟩
  · rintro ⟨x, y, e, h1, h2⟩; exact ⟨x, y, e, h1, (cat_eps M y).1 h2⟩)
/-- One of two. -/
def orB (a b : List Bool) : List Bool := (List.range a.length).map (fun k => a.getD k false || b.getD k false)
theorem orB_len (a b : List Bool) : (orB a b).length = a.length := by simp [orB]
theorem orB_at {a b : List Bool} {k : Nat} (h : k < a.length) : (orB a b)[k]? = some (a.getD k false || b.getD k false) := by simp [orB, h]
theorem getD_true {a : List Bool} {k : Nat} : a.getD k false = true ↔ a[k]? = some true := by
  rw [List.getD_eq_getElem?_getD]
  cases h : a[k]? with
  | none => simp
  | some b => simp
theorem orB_true {a b : List Bool} {k : Nat} (h : k < a.length) : (orB a b)[k]? = some true ↔ a[k]? = some true ∨ b[k]? = some true := by
  rw [orB_at h, Option.some.injEq, Bool.or_eq_true, getD_true, getD_true]
theorem Rel.or {M N : Lg} {s : List Nat} {A B C : List Bool} (h : Rel M s A B) (k : Rel N s A C) : Rel (fun u => M u ∨ N u) s A (orB B C) := ⟨by rw [orB_len, h.len], fun j hj => by
  rw [orB_true (by rw [h.len]; omega), h.iff j hj, k.iff j hj]
  constructor
  · rintro (⟨i, h1, h2, h3⟩ | ⟨i, h1, h2, h3⟩)
    · exact ⟨i, h1, h2, .inl h3⟩
    · exact ⟨i, h1, h2, .inr h3⟩
  · rintro ⟨i, h1, h2, h3 | h3⟩
    · exact .inl ⟨i, h1, h2, h3⟩
    · exact .inr ⟨i, h1, h2, h3⟩⟩
/-- From mn up to r times. -/
def upM (M : Lg) (mn r : Nat) : Lg := fun u => ∃ k, mn ≤ k ∧ k ≤ r ∧ powM M k u
theorem upM_one (M : Lg) (mn : Nat) (u : List Nat) : powM M mn u ↔ upM M mn mn u := by
  constructor
  · exact fun h => ⟨mn, Nat.le_refl _, Nat.le_refl _, h⟩
  · rintro ⟨k, h1, h2, h3⟩
    obtain rfl : k = mn := by omega
    exact h3
theorem upM_succ (M : Lg) (mn r : Nat) (h : mn ≤ r) (u : List Nat) : (upM M mn r u ∨ powM M (r + 1) u) ↔ upM M mn (r + 1) u := by
  constructor
  · rintro (⟨k, h1, h2, h3⟩ | h1)
    · exact ⟨k, h1, by omega, h3⟩
    · exact ⟨r + 1, by omega, Nat.le_refl _, h1⟩
  · rintro ⟨k, h1, h2, h3⟩
    by_cases e : k = r + 1
    · subst e; exact .inr h3
    · exact .inl ⟨k, h1, by omega, h3⟩
theorem upM_rep (M : Lg) (mn : Nat) (mx : Int) (h : (mn : Int) ≤ mx) (u : List Nat) : upM M mn mx.toNat u ↔ repM M mn mx u := by
  constructor
  · rintro ⟨k, h1, h2, h3⟩; exact ⟨k, h1, .inr h2, h3⟩
  · rintro ⟨k, h1, h2, h3⟩; exact ⟨k, h1, by omega, h3⟩
/-- What leads to nothing further, once more, leads no further. -/
theorem Rel.stops {M : Lg} {s : List Nat} {A B C D : List Bool} {mn r : Nat} (hr : mn ≤ r) (h : Rel (upM M mn r) s A B) (k : Rel (powM M (r + 1)) s A C) (hf : ∀ j, j ≤ s.length → C[j]? = some true → B[j]? = some true) {mx : Int} (hx : mx = -1 ∨ (r : Int) ≤ mx) (hmn : mx = -1 ∨ (mn : Int) ≤ mx) : Rel (repM M mn mx) s A B := by
  -- each place that is led to by more is led to by r at most
  have key : ∀ d j, j ≤ s.length → (∃ i, i ≤ j ∧ A[i]? = some true ∧ powM M (mn + d) (seg s i j)) → B[j]? = some true := by
    intro d
    induction d with
    | zero => intro j hj ⟨i, h1, h2, h3⟩; exact (h.iff j hj).2 ⟨i, h1, h2, mn, Nat.le_refl _, hr, h3⟩
    | succ d ih =>
      intro j hj ⟨i, h1, h2, h3⟩
      rw [show mn + (d + 1) = (mn + d) + 1 by omega, powM_add M (mn + d) 1] at h3
      obtain ⟨u, v, e, hu, hv⟩ := h3
      obtain ⟨x, x1, x2, rfl, rfl⟩ := seg_cut h1 hj e
      obtain ⟨i', h4, h5, q, q1, q2, q3⟩ := (h.iff x (by omega)).1 (ih x (by omega) ⟨i, x1, h2, hu⟩)
      have hp : powM M (q + 1) (seg s i' j) := (powM_add M q 1 _).2 ⟨_, _, seg_app h4 x2, q3, hv⟩
      by_cases e : q = r
      · subst e
        exact hf j hj ((k.iff j hj).2 ⟨i', by omega, h5, hp⟩)
      · exact (h.iff j hj).2 ⟨i', by omega, h5, q + 1, by omega, by omega, hp⟩
  refine ⟨h.len, fun j hj => ⟨fun hb => ?_, fun ⟨i, h1, h2, q, q1, q2, q3⟩ => ?_⟩⟩
  · obtain ⟨i, h1, h2, q, q1, q2, q3⟩ := (h.iff j hj).1 hb
    exact ⟨i, h1, h2, q, q1, by omega, q3⟩
  · exact key (q - mn) j hj ⟨i, h1, h2, by rw [show mn + (q - mn) = q by omega]; exact q3⟩
/-- Where all is led to. -/
theorem Rel.full {M : Lg} {s : List Nat} {A B : List Bool} {mn r : Nat} (h : Rel (upM M mn r) s A B) (hc : s.length + 1 ≤ B.count true) : Rel (repM M mn (-1)) s A B := by
  have hall : ∀ j, j ≤ s.length → B[j]? = some true := fun j hj => by
    have e : B.count true = B.length := by have := List.count_le_length (a := true) (l := B); have := h.len; omega
    rw [List.count_eq_length] at e
    have hl : j < B.length := by rw [h.len]; omega
    rw [List.getElem?_eq_getElem hl, ← e _ (List.getElem_mem hl)]
  refine ⟨h.len, fun j hj => ⟨fun hb => ?_, fun _ => hall j hj⟩⟩
  obtain ⟨i, h1, h2, q, q1, q2, q3⟩ := (h.iff j hj).1 hb
  exact ⟨i, h1, h2, q, q1, .inl rfl, q3⟩
theorem count_or : ∀ {a b c : List Bool}, c.length = a.length → (∀ (k : Nat), a[k]? = some true → c[k]? = some true) → (∃ (k : Nat), k < a.length ∧ c[k]? = some true ∧ a[k]? ≠ some true) → a.count true + 1 ≤ c.count true
  | [], _, c, hl, _, ⟨k, hk, _⟩ => by simp at hk
  | x :: a, b, [], hl, _, _ => by simp at hl
  | x :: a, b, y :: c, hl, h1, ⟨k, hk, h2, h3⟩ => by
    have hm : a.count true ≤ c.count true := by
      clear h2 h3 hk
      have : ∀ (a c : List Bool), c.length = a.length → (∀ (k : Nat), a[k]? = some true → c[k]? = some true) → a.count true ≤ c.count true := by
        intro a
        induction a with
        | nil => intro c _ _; simp
        | cons x a ih =>
          intro c hl h
          cases c with
          | nil => simp at hl
          | cons y c =>
            have h0 := h 0
            have := ih c (by simpa using hl) (fun k hk => by have := h (k + 1) (by simpa using hk); simpa using this)
            simp at h0
            cases x with
            | false => simp [List.count_cons]; omega
            | true => have := h0 rfl; subst this; simp [List.count_cons]; omega
      exact this a c (by simpa using hl) (fun k hk => by have := h1 (k + 1) (by simpa using hk); simpa using this)
    have h0 := h1 0
    simp at h0
    cases k with
    | zero =>
      simp at h2 h3
      subst h2 h3
      simp [List.count_cons]; omega
    | succ k =>
      have := count_or (b := b) (a := a) (c := c) (by simpa using hl) (fun k hk => by have := h1 (k + 1) (by simpa using hk); simpa using this) ⟨k, by simpa using hk, by simpa using h2, by simpa using h3⟩
      cases x with
      | false => simp [List.count_cons]; omega
      | true => have := h0 rfl; subst this; simp [List.count_cons]; omega
/-- One byte. -/
theorem Rel.byte {x : S4} {s : List Nat} {A B : List Bool} (hl : B.length = s.length + 1) (h0 : B[0]? = some false) (h : ∀ k b, s[k]? = some b → (B[k + 1]? = some true ↔ A[k]? = some true ∧ inS x b = true)) : Rel (byM x) s A B := ⟨hl, fun j hj => by
  cases j with
  | zero =>
    rw [h0]
    constructor
    · intro e; cases e
    · rintro ⟨i, h1, h2, b, hb, _⟩
      have := congrArg List.length hb
      rw [seg_len h1 hj] at this
      simp at this
  | succ k =>
    have hk : k < s.length := by omega
    have hs : s[k]? = some s[k] := List.getElem?_eq_getElem hk
    have e1 : seg s k (k + 1) = [s[k]] := by
      unfold seg
      rw [show k + 1 - k = 0 + 1 by omega, List.take_add_one, List.getElem?_drop, Nat.add_zero, hs]
      rfl
    rw [h k _ hs]
    constructor
    · rintro ⟨h1, h2⟩; exact ⟨k, by omega, h1, s[k], e1, h2⟩
    · rintro ⟨i, h1, h2, b, hb, hi⟩
      have := congrArg List.length hb
      rw [seg_len h1 hj] at this
      obtain rfl : i = k := by simp at this; omega
      rw [e1] at hb
      cases hb
      exact ⟨h2, hi⟩⟩
theorem seg_all (s : List Nat) : seg s 0 s.length = s := by simp [seg]
end Go.Proofs.YthgdfgkjaepchaaDoor
