/-
  One order: what holds of it for texts goes on to labels, and to lists of labels.
-/
import Derived.Test.YtlmpndmceiihaaaChecked
import Derived.WalkKit
import Derived.WalkLawsBesides
namespace Go.Proofs.Ytlmpndmceiihaaa
open Go.RowKit
set_option linter.unusedVariables false

/-- c is one order, told by -1, 0 and 1. -/
structure TW {α : Type} (c : α → α → Int) : Prop where
  low : ∀ x y, -1 ≤ c x y
  high : ∀ x y, c x y ≤ 1
  turn : ∀ x y, c y x = - c x y
  same : ∀ x y, c x y = 0 ↔ x = y
  on : ∀ x y z, c x y ≤ 0 → c y z ≤ 0 → c x z ≤ 0

theorem TW.strict {α : Type} {c : α → α → Int} (h : TW c) {x y z : α} (h1 : c x y ≤ 0) (h2 : c y z ≤ 0) (h3 : c x z = 0) : c x y = 0 ∧ c y z = 0 := by
  obtain rfl := (h.same x z).1 h3
  have := h.turn x y
  omega

abbrev Str := ByteArray
theorem str_ext (a b : Str) : a.toList = b.toList ↔ a = b := by
  constructor
  · intro h
    rw [ByteArray.toList_eq, ByteArray.toList_eq] at h
    cases a; cases b
    simpa using h
  · rintro rfl; rfl
theorem less_lt (x : List UInt8) : ∀ y, Op.bytesLess x y = decide (x < y) := by
  induction x with
  | nil => intro y; cases y <;> simp [Op.bytesLess]
  | cons a x ih =>
    intro y
    cases y with
    | nil => simp [Op.bytesLess]
    | cons b y =>
      rw [Op.bytesLess, ih y]
      simp only [List.cons_lt_cons_iff]
      by_cases h1 : a < b <;> by_cases h2 : a = b <;> by_cases h3 : x < y <;> simp [h1, h2, h3]
def s3 (x y : Str) : Int := if Op.bytesLess x.toList y.toList then -1 else if x.toList == y.toList then 0 else 1
theorem tw_s3 : TW s3 := by
  have hs : ∀ x y : Str, s3 x y = (if x.toList < y.toList then -1 else if x.toList = y.toList then 0 else 1) := fun x y => by
    unfold s3
    rw [less_lt]
    simp
  have irr : ∀ l : List UInt8, ¬ l < l := fun l => List.lt_irrefl l
  have asy : ∀ l m : List UInt8, l < m → ¬ m < l := fun l m h1 h2 => irr _ (List.lt_trans h1 h2)
  have tri : ∀ l m : List UInt8, ¬ l < m → ¬ l = m → m < l := fun l m h1 h2 => Classical.byContradiction fun h3 => h2 (List.le_antisymm (List.not_lt.1 h3) (List.not_lt.1 h1))
  refine ⟨fun x y => ?_, fun x y => ?_, fun x y => ?_, fun x y => ?_, fun x y z => ?_⟩
  · rw [hs]; split <;> (try split) <;> omega
  · rw [hs]; split <;> (try split) <;> omega
  · rw [hs, hs]
    by_cases h1 : x.toList < y.toList
    · rw [if_pos h1, if_neg (asy _ _ h1), if_neg (fun e => by rw [e] at h1; exact irr _ h1)]; rfl
    · by_cases h2 : x.toList = y.toList
      · rw [if_neg h1, if_pos h2, if_neg (by rw [h2]; exact irr _), if_pos h2.symm]; rfl
      · rw [if_neg h1, if_neg h2, if_pos (tri _ _ h1 h2)]
  · rw [hs, ← str_ext]
    by_cases h1 : x.toList < y.toList
    · rw [if_pos h1]
      exact ⟨fun h => by omega, fun h => by rw [h] at h1; exact (irr _ h1).elim⟩
    · by_cases h2 : x.toList = y.toList
      · rw [if_neg h1, if_pos h2]; exact ⟨fun _ => h2, fun _ => rfl⟩
      · rw [if_neg h1, if_neg h2]; exact ⟨fun h => by omega, fun h => (h2 h).elim⟩
  · rw [hs, hs, hs]
    intro h1 h2
    have le1 : x.toList < y.toList ∨ x.toList = y.toList := by
      by_cases a : x.toList < y.toList
      · exact .inl a
      · by_cases b : x.toList = y.toList
        · exact .inr b
        · rw [if_neg a, if_neg b] at h1; omega
    have le2 : y.toList < z.toList ∨ y.toList = z.toList := by
      by_cases a : y.toList < z.toList
      · exact .inl a
      · by_cases b : y.toList = z.toList
        · exact .inr b
        · rw [if_neg a, if_neg b] at h2; omega
    have : x.toList < z.toList ∨ x.toList = z.toList := by
      rcases le1 with a | a <;> rcases le2 with b | b
      · exact .inl (List.lt_trans a b)
      · rw [← b]; exact .inl a
      · rw [a]; exact .inl b
      · exact .inr (a.trans b)
    rcases this with a | a
    · rw [if_pos a]; omega
    · by_cases b : x.toList < z.toList
      · rw [if_pos b]; omega
      · rw [if_neg b, if_pos a]; omega

/-- The first that is not 0. -/
def or2 (a b : Int) : Int := if a = 0 then b else a
theorem tw_pair {α β : Type} {c : α → α → Int} {d : β → β → Int} (hc : TW c) (hd : TW d) : TW (fun (x y : α × β) => or2 (c x.1 y.1) (d x.2 y.2)) := by
  refine ⟨fun x y => ?_, fun x y => ?_, fun x y => ?_, fun x y => ?_, fun x y z h1 h2 => ?_⟩
  · have := hc.low x.1 y.1; have := hd.low x.2 y.2; unfold or2; split <;> assumption
  · have := hc.high x.1 y.1; have := hd.high x.2 y.2; unfold or2; split <;> assumption
  · have h1 := hc.turn x.1 y.1; have h2 := hd.turn x.2 y.2; unfold or2; split <;> split <;> omega
  · have h1 := hc.same x.1 y.1
    have h2 := hd.same x.2 y.2
    unfold or2
    constructor
    · intro h
      split at h
      · rename_i e
        exact Prod.ext (h1.1 e) (h2.1 h)
      · rename_i e; exact (e h).elim
    · rintro rfl
      rw [if_pos (h1.2 rfl), h2.2 rfl]
  · have a1 := hc.on x.1 y.1 z.1
    have a2 := hd.on x.2 y.2 z.2
    have a3 := fun u v => hc.strict (x := x.1) (y := y.1) (z := z.1) u v
    have s1 := hc.same x.1 y.1
    have s2 := hc.same y.1 z.1
    simp only [or2] at h1 h2 ⊢
    by_cases e1 : c x.1 y.1 = 0
    · by_cases e2 : c y.1 z.1 = 0
      · have e3 : c x.1 z.1 = 0 := by rw [s1.1 e1]; exact e2
        rw [if_pos e1] at h1
        rw [if_pos e2] at h2
        rw [if_pos e3]
        exact a2 h1 h2
      · rw [if_neg e2] at h2
        have e3 : c x.1 z.1 = c y.1 z.1 := by rw [s1.1 e1]
        rw [if_neg (by omega)]
        omega
    · rw [if_neg e1] at h1
      by_cases e2 : c y.1 z.1 = 0
      · have e3 : c x.1 z.1 = c x.1 y.1 := by rw [s2.1 e2]
        rw [if_neg (by omega)]
        omega
      · rw [if_neg e2] at h2
        have := a1 h1 h2
        by_cases e3 : c x.1 z.1 = 0
        · exact (e1 (a3 h1 h2 e3).1).elim
        · rw [if_neg e3]; exact this
/-- Lists: the first that differ, then the lengths. -/
def lexL {α : Type} (c : α → α → Int) : List α → List α → Int
  | [], [] => 0
  | [], _ :: _ => -1
  | _ :: _, [] => 1
  | x :: xs, y :: ys => or2 (c x y) (lexL c xs ys)
theorem tw_lex {α : Type} {c : α → α → Int} (hc : TW c) : TW (lexL c) := by
  have hp : ∀ xs ys : List α, (-1 ≤ lexL c xs ys ∧ lexL c xs ys ≤ 1) ∧ lexL c ys xs = - lexL c xs ys ∧ (lexL c xs ys = 0 ↔ xs = ys) := by
    intro xs
    induction xs with
    | nil => intro ys; cases ys <;> simp [lexL]
    | cons x xs ih =>
      intro ys
      cases ys with
      | nil => simp [lexL]
      | cons y ys =>
        obtain ⟨⟨i1, i2⟩, i3, i4⟩ := ih ys
        have h1 := hc.low x y
        have h2 := hc.high x y
        have h3 := hc.turn x y
        have h4 := hc.same x y
        simp only [lexL, or2]
        refine ⟨⟨by split <;> omega, by split <;> omega⟩, by split <;> split <;> omega, ?_⟩
        constructor
        · intro h
          split at h
          · rename_i e; rw [h4.1 e, i4.1 h]
          · rename_i e; exact (e h).elim
        · intro h
          simp only [List.cons.injEq] at h
          rw [if_pos (h4.2 h.1)]
          exact i4.2 h.2
  refine ⟨fun x y => (hp x y).1.1, fun x y => (hp x y).1.2, fun x y => (hp x y).2.1, fun x y => (hp x y).2.2, ?_⟩
  intro xs
  induction xs with
  | nil => intro ys zs h1 h2; cases zs <;> simp [lexL]
  | cons x xs ih =>
    intro ys zs h1 h2
    cases ys with
    | nil => simp [lexL] at h1
    | cons y ys =>
      cases zs with
      | nil => simp [lexL] at h2
      | cons z zs =>
        have hi := ih ys zs
        have a1 := hc.on x y z
        have a3 := fun u v => hc.strict (x := x) (y := y) (z := z) u v
        have s1 := hc.same x y
        have s2 := hc.same y z
        simp only [lexL, or2] at h1 h2 ⊢
        by_cases e1 : c x y = 0
        · by_cases e2 : c y z = 0
          · have e3 : c x z = 0 := by rw [s1.1 e1]; exact e2
            rw [if_pos e1] at h1
            rw [if_pos e2] at h2
            rw [if_pos e3]
            exact hi h1 h2
          · rw [if_neg e2] at h2
            have e3 : c x z = c y z := by rw [s1.1 e1]
            rw [if_neg (by omega)]
            omega
        · rw [if_neg e1] at h1
          by_cases e2 : c y z = 0
          · have e3 : c x z = c x y := by rw [s2.1 e2]
            rw [if_neg (by omega)]
            omega
          · rw [if_neg e2] at h2
            have := a1 h1 h2
            by_cases e3 : c x z = 0
            · exact (e1 (a3 h1 h2 e3).1).elim
            · rw [if_neg e3]; exact this

abbrev Lab := Str × Str
def l3 (x y : Lab) : Int := or2 (s3 x.1 y.1) (s3 x.2 y.2)
theorem tw_l3 : TW l3 := tw_pair tw_s3 tw_s3
/-- Label sets, held against each other. -/
def c3 : List Lab → List Lab → Int := lexL l3
theorem tw_c3 : TW c3 := tw_lex tw_l3
end Go.Proofs.Ytlmpndmceiihaaa
