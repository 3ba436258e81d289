/-
  PostIndexes, the mathematics: entries rising by key; what List finds; what putting a key's list in makes of them; how far the reference's set has come.
-/
import Derived.Test.YthkfbdcocnhebaaNum
import Derived.WalkKit
namespace Go.Proofs.Ythkfbdcocnhebaa
open Go.RowKit
set_option linter.unusedVariables false
set_option linter.unusedSimpArgs false

abbrev Str := ByteArray
theorem str_ext (a b : Str) : a.toList = b.toList ↔ a = b := by
  constructor
  · intro h
    rw [ByteArray.toList_eq, ByteArray.toList_eq] at h
    cases a; cases b
    simpa using h
  · rintro rfl; rfl
theorem less_lt (x : List UInt8) : ∀ y, Op.bytesLess x y = decide (x < y) := by
  induction x with
  | nil => intro y; cases y <;> simp [Op.bytesLess]
  | cons a x ih =>
    intro y
    cases y with
    | nil => simp [Op.bytesLess]
    | cons b y =>
      rw [Op.bytesLess, ih y]
      simp only [List.cons_lt_cons_iff]
      by_cases h1 : a < b <;> by_cases h2 : a = b <;> by_cases h3 : x < y <;> simp [h1, h2, h3]
/-- One key is ahead of another. -/
def kl (x y : Str) : Prop := x.toList < y.toList
instance (x y : Str) : Decidable (kl x y) := by unfold kl; infer_instance
theorem kl_irr (x : Str) : ¬ kl x x := List.lt_irrefl _
theorem kl_on {x y z : Str} (h1 : kl x y) (h2 : kl y z) : kl x z := List.lt_trans h1 h2
theorem kl_asy {x y : Str} (h1 : kl x y) : ¬ kl y x := fun h2 => kl_irr x (kl_on h1 h2)
theorem kl_ne {x y : Str} (h : kl x y) : x ≠ y := fun e => kl_irr y (e ▸ h)
theorem kl_tri (x y : Str) : kl x y ∨ x = y ∨ kl y x := by
  by_cases h1 : x.toList < y.toList
  · exact .inl h1
  · by_cases h2 : x.toList = y.toList
    · exact .inr (.inl ((str_ext x y).1 h2))
    · exact .inr (.inr (Classical.byContradiction fun h3 => h2 (List.le_antisymm (List.not_lt.1 h3) (List.not_lt.1 h1))))

abbrev Ent := Str × List Int
def Ups (E : List Ent) : Prop := E.Pairwise (fun a b => kl a.1 b.1)
def Full (E : List Ent) : Prop := ∀ e ∈ E, e.2 ≠ []
/-- A key's list. -/
def lk : List Ent → Str → List Int
  | [], _ => []
  | e :: r, k => if e.1 = k then e.2 else lk r k
def one (k : Str) (l : List Int) : List Ent := if l = [] then [] else [(k, l)]
/-- The entries, when the key's list is l. -/
def st (E : List Ent) (k : Str) (l : List Int) : List Ent := E.filter (fun e => decide (kl e.1 k)) ++ one k l ++ E.filter (fun e => decide (kl k e.1))

theorem lk_app {A : List Ent} (hA : Full A) (B : List Ent) (j : Str) : lk (A ++ B) j = if lk A j = [] then lk B j else lk A j := by
  induction A with
  | nil => simp [lk]
  | cons e r ih =>
    have ih' := ih (fun x hx => hA x (by simp [hx]))
    have he := hA e (by simp)
    by_cases h : e.1 = j
    · simp [lk, h, he]
    · simp only [List.cons_append, lk, if_neg h]; exact ih'
theorem lk_filter (p : Str → Bool) (E : List Ent) (j : Str) : lk (E.filter (fun e => p e.1)) j = if p j = true then lk E j else [] := by
  induction E with
  | nil => simp [lk]
  | cons e r ih =>
    by_cases h : e.1 = j
    · by_cases hp : p j = true
      · rw [List.filter_cons_of_pos (p := fun e : Ent => p e.1) (by rw [h]; exact hp)]
        simp [lk, h, hp]
      · rw [List.filter_cons_of_neg (p := fun e : Ent => p e.1) (by rw [h]; exact hp), ih]
        simp [lk, hp]
    · by_cases hp : p e.1 = true
      · rw [List.filter_cons_of_pos (p := fun e : Ent => p e.1) hp]
        simp only [lk, if_neg h]; exact ih
      · rw [List.filter_cons_of_neg (p := fun e : Ent => p e.1) hp, ih]
        simp only [lk, if_neg h]
theorem lk_one (k : Str) (l : List Int) (j : Str) : lk (one k l) j = if j = k then l else [] := by
  unfold one
  by_cases h : l = []
  · subst h; simp [lk]
  · rw [if_neg h]
    by_cases e : k = j
    · subst e; simp [lk]
    · rw [if_neg (fun e' => e e'.symm)]; simp [lk, e]
theorem full_one (k : Str) (l : List Int) : Full (one k l) := fun e he => by
  unfold one at he
  split at he
  · simp at he
  · rw [List.mem_singleton.1 he]; assumption
theorem full_filter {E : List Ent} (h : Full E) (p : Ent → Bool) : Full (E.filter p) := fun e he => h e ((List.mem_filter.1 he).1)
theorem full_app {A B : List Ent} (h : Full A) (k : Full B) : Full (A ++ B) := fun e he => (List.mem_append.1 he).elim (h e) (k e)
theorem full_st {E : List Ent} (h : Full E) (k : Str) (l : List Int) : Full (st E k l) := full_app (full_app (full_filter h _) (full_one k l)) (full_filter h _)
theorem lk_st {E : List Ent} (h : Full E) (k : Str) (l : List Int) (j : Str) : lk (st E k l) j = if j = k then l else lk E j := by
  unfold st
  rw [lk_app (full_app (full_filter h _) (full_one k l)), lk_app (full_filter h _), lk_one, lk_filter (fun x => decide (kl x k)), lk_filter (fun x => decide (kl k x))]
  rcases kl_tri j k with h1 | h1 | h1
  · have h2 := kl_asy h1
    have h3 := kl_ne h1
    by_cases he : lk E j = [] <;> simp [h1, h2, h3, he]
  · subst h1
    have h2 := kl_irr j
    simp [h2]
  · have h2 := kl_asy h1
    have h3 : j ≠ k := fun e => kl_irr k (e ▸ h1)
    simp [h1, h2, h3]
theorem mem_one {k : Str} {l : List Int} {e : Ent} (h : e ∈ one k l) : e = (k, l) ∧ l ≠ [] := by
  unfold one at h
  split at h
  · simp at h
  · exact ⟨List.mem_singleton.1 h, by assumption⟩
theorem ups_st {E : List Ent} (h : Ups E) (k : Str) (l : List Int) : Ups (st E k l) := by
  unfold st Ups
  refine List.pairwise_append.2 ⟨List.pairwise_append.2 ⟨h.filter _, ?_, fun a ha b hb => ?_⟩, h.filter _, fun a ha b hb => ?_⟩
  · unfold one; split <;> simp
  · have h1 := (List.mem_filter.1 ha).2
    rw [(mem_one hb).1]
    simpa using h1
  · have h1 := (List.mem_filter.1 hb).2
    simp only [decide_eq_true_eq] at h1
    rcases List.mem_append.1 ha with ha | ha
    · have h2 := (List.mem_filter.1 ha).2
      simp only [decide_eq_true_eq] at h2
      exact kl_on h2 h1
    · rw [(mem_one ha).1]; exact h1
theorem mem_st {E : List Ent} {k : Str} {l : List Int} {e : Ent} (h : e ∈ st E k l) : e ∈ E ∨ (e = (k, l) ∧ l ≠ []) := by
  unfold st at h
  rcases List.mem_append.1 h with h | h
  · rcases List.mem_append.1 h with h | h
    · exact .inl ((List.mem_filter.1 h).1)
    · exact .inr (mem_one h)
  · exact .inl ((List.mem_filter.1 h).1)
theorem lk_mem {E : List Ent} {j : Str} (h : lk E j ≠ []) : (j, lk E j) ∈ E := by
  induction E with
  | nil => exact (h rfl).elim
  | cons e r ih =>
    by_cases e1 : e.1 = j
    · simp only [lk, if_pos e1]
      rw [← e1]; simp
    · simp only [lk, if_neg e1] at h ⊢
      exact List.mem_cons_of_mem _ (ih h)
theorem lk_of_mem {E : List Ent} (h : Ups E) {e : Ent} (he : e ∈ E) : lk E e.1 = e.2 := by
  induction E with
  | nil => simp at he
  | cons a r ih =>
    rw [Ups, List.pairwise_cons] at h
    rcases List.mem_cons.1 he with rfl | he
    · simp [lk]
    · have := kl_ne (h.1 e he)
      simp only [lk, if_neg this]
      exact ih h.2 he

/-- How far the reference's set has come: p is what was gone through. -/
structure SetI (p : List Ent) (k : Str) (l : List Int) (d : Bool) (r : List Ent) : Prop where
  eq : r = p.filter (fun e => decide (kl e.1 k)) ++ (if d = true then one k l else []) ++ p.filter (fun e => decide (kl k e.1))
  no : d = false → l ≠ [] ∧ ∀ e ∈ p, kl e.1 k
  yes : d = true → l = [] ∨ ∃ e ∈ p, ¬ kl e.1 k
theorem SetI.start (k : Str) (l : List Int) : SetI [] k l (decide (l = [])) [] := by
  by_cases h : l = []
  · refine ⟨by simp [h, one], fun h' => by simp [h] at h', fun _ => .inl h⟩
  · exact ⟨by simp [h], fun _ => ⟨h, fun e he => by simp at he⟩, fun h' => by simp [h] at h'⟩
theorem flt_none {p : List Ent} {k : Str} (h : ∀ e ∈ p, kl e.1 k) : p.filter (fun e => decide (kl k e.1)) = [] := by
  rw [List.filter_eq_nil_iff]
  intro e he
  simpa using kl_asy (h e he)
theorem SetI.mid {p r : List Ent} {k : Str} {l : List Int} {t : Ent} (h : SetI p k l false r) (ht : ¬ kl t.1 k) : SetI (p ++ [t]) k l true (if t.1 = k then r ++ [(k, l)] else r ++ [(k, l)] ++ [t]) := by
  obtain ⟨hl, hp⟩ := h.no rfl
  have e1 := h.eq
  rw [flt_none hp] at e1
  refine ⟨?_, fun h => (by cases h), fun _ => .inr ⟨t, by simp, ht⟩⟩
  have hone : one k l = [(k, l)] := by unfold one; rw [if_neg hl]
  rw [List.filter_append, List.filter_append, flt_none hp, e1]
  simp only [if_true, hone]
  rcases kl_tri t.1 k with h1 | h1 | h1
  · exact (ht h1).elim
  · have h2 := kl_irr k
    simp [h1, h2]
  · have h3 := kl_ne h1
    rw [if_neg (fun e => h3 e.symm)]
    simp [ht, h1]
theorem SetI.next {p r : List Ent} {k : Str} {l : List Int} {t : Ent} {d : Bool} (h : SetI p k l d r) (hd : d = true ∨ kl t.1 k) (hp : ∀ e ∈ p, kl e.1 t.1) : SetI (p ++ [t]) k l d (if t.1 = k then r else r ++ [t]) := by
  have e1 := h.eq
  rcases kl_tri t.1 k with h1 | h1 | h1
  · -- ahead of the key
    have hall : ∀ e ∈ p, kl e.1 k := fun e he => kl_on (hp e he) h1
    have hz := flt_none hall
    have hmid : (if d = true then one k l else []) = [] := by
      cases d with
      | false => rfl
      | true =>
        rcases h.yes rfl with h2 | ⟨e, he, h2⟩
        · simp [one, h2]
        · exact (h2 (hall e he)).elim
    refine ⟨?_, fun hd0 => ⟨(h.no hd0).1, fun e he => ?_⟩, fun hd1 => ?_⟩
    · rw [if_neg (kl_ne h1), List.filter_append, List.filter_append, e1, hz, hmid]
      simp [h1, kl_asy h1]
    · rcases List.mem_append.1 he with he | he
      · exact hall e he
      · rw [List.mem_singleton.1 he]; exact h1
    · rcases h.yes hd1 with h2 | ⟨e, he, h2⟩
      · exact .inl h2
      · exact .inr ⟨e, by simp [he], h2⟩
  · have hd1 : d = true := hd.resolve_right (fun h2 => kl_irr k (h1 ▸ h2))
    subst hd1
    refine ⟨?_, fun h => (by cases h), fun _ => .inr ⟨t, by simp, by rw [h1]; exact kl_irr k⟩⟩
    rw [if_pos h1, List.filter_append, List.filter_append, e1]
    simp [h1, kl_irr k]
  · have hd1 : d = true := hd.resolve_right (kl_asy h1)
    subst hd1
    have h3 : t.1 ≠ k := fun e => kl_irr k (e ▸ h1)
    refine ⟨?_, fun h => (by cases h), fun _ => .inr ⟨t, by simp, kl_asy h1⟩⟩
    rw [if_neg h3, List.filter_append, List.filter_append, e1]
    simp [h1, kl_asy h1]
/-- What set comes to. -/
theorem SetI.done {E r : List Ent} {k : Str} {l : List Int} {d : Bool} (h : SetI E k l d r) : (if d = true then r else r ++ [(k, l)]) = st E k l := by
  have e1 := h.eq
  cases d with
  | true => simpa [st] using e1
  | false =>
    obtain ⟨hl, hp⟩ := h.no rfl
    have hone : one k l = [(k, l)] := by unfold one; rw [if_neg hl]
    rw [flt_none hp] at e1
    unfold st
    rw [flt_none hp, hone, e1]
    simp
theorem flt_len (p : List Ent) (k : Str) : (p.filter (fun e => decide (kl e.1 k))).length + (p.filter (fun e => decide (kl k e.1))).length ≤ p.length := by
  induction p with
  | nil => simp
  | cons a r ih =>
    by_cases h1 : kl a.1 k
    · have := kl_asy h1
      simp [h1, this]; omega
    · by_cases h2 : kl k a.1
      · simp [h1, h2]; omega
      · simp [h1, h2]; omega
theorem one_len (k : Str) (l : List Int) : (one k l).length ≤ 1 := by unfold one; split <;> simp
theorem SetI.len {p r : List Ent} {k : Str} {l : List Int} {d : Bool} (h : SetI p k l d r) : r.length ≤ p.length + 1 := by
  rw [h.eq]
  have h1 := flt_len p k
  have h2 : (if d = true then one k l else []).length ≤ 1 := by
    split
    · exact one_len k l
    · simp
  simp only [List.length_append]
  omega
theorem st_len (E : List Ent) (k : Str) (l : List Int) : (st E k l).length ≤ E.length + 1 := by
  have h1 := flt_len E k
  have h2 := one_len k l
  unfold st
  simp only [List.length_append]
  omega
end Go.Proofs.Ythkfbdcocnhebaa
