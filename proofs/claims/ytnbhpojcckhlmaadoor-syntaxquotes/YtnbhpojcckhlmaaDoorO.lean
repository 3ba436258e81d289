/-
  Mathematics of patterns that are read: how far a place goes, how many Res there are, how deep they stand, and that each may be.
-/
import Derived.Test.YtnbhpojcckhlmaaDoorL
namespace Go.Proofs.YtnbhpojcckhlmaaDoor
open Go.RowKit
set_option linter.unusedVariables false
set_option linter.unusedSimpArgs false

/-- How many, and how deep. -/
def Fo.sz : Fo → Nat
  | .nil => 0
  | .cons _ k r => 1 + k.sz + r.sz
def Fo.dp : Fo → Nat
  | .nil => 0
  | .cons _ k r => max (1 + k.dp) r.dp
/-- May one be, with so many members? -/
def fitN (n : Nd) (len : Nat) : Prop := (n.k ≠ 1 → n.s = noSet) ∧ (n.k = 4 → len = 1 ∧ arT n.mn n.mx = true) ∧ (n.k ≠ 4 → n.mn = 0 ∧ n.mx = 0) ∧ (n.k = 1 ∧ len = 0 ∨ n.k = 2 ∨ n.k = 3 ∨ n.k = 4)
def Fo.fit : Fo → Prop
  | .nil => True
  | .cons n k r => fitN n k.len ∧ k.fit ∧ r.fit
def szT (t : Tr) : Nat := 1 + t.2.sz
def dpT (t : Tr) : Nat := 1 + t.2.dp
def fitT (t : Tr) : Prop := fitN t.1 t.2.len ∧ t.2.fit
theorem Fo.sz_snoc (f : Fo) (t : Tr) : (f.snoc t).sz = f.sz + szT t := by
  induction f with
  | nil => simp [Fo.snoc, Fo.sz, szT]
  | cons n k r _ ih => simp [Fo.snoc, Fo.sz, ih]; omega
theorem Fo.dp_snoc (f : Fo) (t : Tr) : (f.snoc t).dp = max f.dp (dpT t) := by
  induction f with
  | nil => simp [Fo.snoc, Fo.dp, dpT]
  | cons n k r _ ih => simp [Fo.snoc, Fo.dp, ih] <;> omega
theorem Fo.fit_snoc {f : Fo} {t : Tr} (hf : f.fit) (ht : fitT t) : (f.snoc t).fit := by
  induction f with
  | nil => exact ⟨ht.1, ht.2, trivial⟩
  | cons n k r _ ih => exact ⟨hf.1, hf.2.1, ih hf.2.2⟩
theorem tog_cases (k : Int) (f : Fo) : (∃ n kids, f = .cons n kids .nil ∧ tog k f = (n, kids)) ∨ (f.len ≠ 1 ∧ tog k f = (⟨k, noSet, 0, 0⟩, f)) := by
  cases f with
  | nil => exact .inr ⟨by simp [Fo.len], rfl⟩
  | cons n kids r => cases r with
    | nil => exact .inl ⟨n, kids, rfl, rfl⟩
    | cons _ _ _ => exact .inr ⟨by simp [Fo.len], rfl⟩
/-- What comes out of pieces, atoms, brackets from a on is good. -/
def GoodP (s : ByteArray) (D a : Nat) (out : Out) : Prop := match out with
  | .error p => p ≤ s.size
  | .ok (t, d) => a < d ∧ d ≤ s.size ∧ fitT t ∧ szT t + 1 ≤ 2 * (d - a) ∧ dpT t ≤ D
/-- What comes out of sequences and alternations from a on is good. -/
def GoodA (s : ByteArray) (D a : Nat) (out : Out) : Prop := match out with
  | .error p => p ≤ s.size
  | .ok (t, d) => a ≤ d ∧ d ≤ s.size ∧ fitT t ∧ szT t ≤ 2 * (d - a) + 1 ∧ dpT t ≤ D
/-- Brackets from a place at which one stands are good. -/
def BrGood (s : ByteArray) (D : Nat) (br : Nat → Out) : Prop := ∀ a, bt s a = 40 → GoodP s D a (br a)
theorem leaf_fit (x : S4) : fitT (leaf x) := ⟨⟨fun h => (h rfl).elim, fun h => (by simp [leaf] at h), fun _ => ⟨rfl, rfl⟩, .inl ⟨rfl, rfl⟩⟩, trivial⟩
theorem atom_good {s : ByteArray} {D : Nat} {br : Nat → Out} (hD : 1 ≤ D) (hb : BrGood s D br) (a : Nat) (ha : a ≤ s.size) : GoodP s D a (atomM br s a) := by
  unfold atomM
  split
  · exact hb a (by assumption)
  · obtain ⟨o1, f1, f2, f3⟩ := set_far s a
    split
    · rename_i h
      have := f3 h
      exact ⟨this.1, this.2, leaf_fit _, by simp [szT, leaf, Fo.sz]; omega, by simp [dpT, leaf, Fo.dp]; omega⟩
    · show _ ≤ _; omega
theorem rep_fit {t : Tr} (h : fitT t) {mn mx : Int} (ht : arT mn mx = true) : fitT (rep t mn mx) :=
  ⟨⟨fun _ => rfl, fun _ => ⟨rfl, ht⟩, fun h => (h rfl).elim, .inr (.inr (.inr rfl))⟩, h.1, h.2, trivial⟩
theorem piece_good {s : ByteArray} {D : Nat} {br : Nat → Out} (hD : 1 ≤ D) (hb : BrGood s D br) (a : Nat) (ha : a ≤ s.size) : GoodP s (D + 1) a (pieceM br s a) := by
  have h1 := atom_good hD hb a ha
  unfold pieceM
  split
  · rename_i p e
    rw [e] at h1
    exact h1
  · rename_i t d e
    rw [e] at h1
    obtain ⟨g1, g2, g3, g4, g5⟩ := h1
    obtain ⟨f1, f2, f3⟩ := times_far s d g2
    split
    · rename_i h
      rcases f3 h with ⟨e1, e2⟩ | ⟨e1, e2, e3⟩
      · rw [if_neg (by rw [e1]; simp)]
        rw [e2]
        exact ⟨g1, g2, g3, g4, by omega⟩
      · rw [if_pos e1]
        refine ⟨by omega, f2, rep_fit g3 e3, ?_, ?_⟩
        · simp only [szT, rep, Fo.sz] at *; omega
        · simp only [dpT, rep, Fo.dp] at *; omega
    · exact f2
theorem seqL_good {s : ByteArray} {D : Nat} {br : Nat → Out} (hD : 1 ≤ D) (hb : BrGood s D br) (a0 : Nat) : ∀ (n : Nat) (f : Fo) (a : Nat), a0 ≤ a → a ≤ s.size → f.fit → f.sz + f.len ≤ 2 * (a - a0) → f.dp ≤ D + 1 →
    match seqL br s n f a with
    | .error p => p ≤ s.size
    | .ok (f', d) => a0 ≤ d ∧ d ≤ s.size ∧ f'.fit ∧ f'.sz + f'.len ≤ 2 * (d - a0) ∧ f'.dp ≤ D + 1
  | 0, f, a, h0, h1, h2, h3, h4 => ⟨h0, h1, h2, h3, h4⟩
  | n + 1, f, a, h0, h1, h2, h3, h4 => by
    unfold seqL
    have hp := piece_good hD hb a h1
    split
    · rename_i hs
      split at hs
      · rename_i hc
        split at hs
        · rename_i p e; rw [e] at hp; cases hs; exact hp
        · rename_i t d e
          rw [e] at hp
          obtain ⟨g1, g2, g3, g4, g5⟩ := hp
          have := seqL_good hD hb a0 n (f.snoc t) d (by omega) g2 (Fo.fit_snoc h2 g3) (by rw [Fo.sz_snoc, Fo.len_snoc]; omega) (by rw [Fo.dp_snoc]; omega)
          rw [hs] at this
          exact this
      · cases hs
    · rename_i hs
      split at hs
      · split at hs
        · cases hs
        · rename_i t d e
          rw [e] at hp
          obtain ⟨g1, g2, g3, g4, g5⟩ := hp
          have := seqL_good hD hb a0 n (f.snoc t) d (by omega) g2 (Fo.fit_snoc h2 g3) (by rw [Fo.sz_snoc, Fo.len_snoc]; omega) (by rw [Fo.dp_snoc]; omega)
          rw [hs] at this
          exact this
      · cases hs; exact ⟨h0, h1, h2, h3, h4⟩
theorem fit_of_one {n : Nd} {k : Fo} (h : (Fo.cons n k .nil).fit) : fitT (n, k) := ⟨h.1, h.2.1⟩
theorem seq_good {s : ByteArray} {D : Nat} {br : Nat → Out} (hD : 1 ≤ D) (hb : BrGood s D br) (a : Nat) (ha : a ≤ s.size) : GoodA s (D + 2) a (seqM br s a) := by
  have h := seqL_good hD hb a (s.size + 1 - a) .nil a (Nat.le_refl _) ha trivial (by simp [Fo.sz, Fo.len]) (by simp [Fo.dp])
  unfold seqM
  split
  · rename_i p e; rw [e] at h; exact h
  · rename_i f d e
    rw [e] at h
    obtain ⟨h1, h2, h3, h4, h5⟩ := h
    rcases tog_cases 2 f with ⟨n, k, rfl, e2⟩ | ⟨hl, e2⟩
    · rw [e2]
      refine ⟨h1, h2, fit_of_one h3, ?_, ?_⟩
      · simp only [szT, Fo.sz, Fo.len] at *; omega
      · simp only [dpT, Fo.dp] at *; omega
    · rw [e2]
      refine ⟨h1, h2, ⟨⟨fun _ => rfl, fun h => (by simp at h), fun _ => ⟨rfl, rfl⟩, .inr (.inl rfl)⟩, h3⟩, ?_, ?_⟩
      · simp only [szT] at *; omega
      · simp only [dpT] at *; omega
theorem altL_good {s : ByteArray} {D : Nat} {br : Nat → Out} (hD : 1 ≤ D) (hb : BrGood s D br) (a0 : Nat) : ∀ (n : Nat) (f : Fo) (a : Nat), a0 ≤ a → a ≤ s.size → f.fit → f.sz + f.len ≤ 2 * (a - a0) + 2 → f.dp ≤ D + 2 →
    match altL br s n f a with
    | .error p => p ≤ s.size
    | .ok (f', d) => a0 ≤ d ∧ d ≤ s.size ∧ f'.fit ∧ f'.sz + f'.len ≤ 2 * (d - a0) + 2 ∧ f'.dp ≤ D + 2
  | 0, f, a, h0, h1, h2, h3, h4 => ⟨h0, h1, h2, h3, h4⟩
  | n + 1, f, a, h0, h1, h2, h3, h4 => by
    unfold altL
    by_cases hc : bt s a = 124
    · have hl := bt_lt (s := s) (k := a) (by omega)
      have hp := seq_good hD hb (a + 1) (by omega)
      simp only [hc, if_true]
      generalize hq : seqM br s (a + 1) = q at hp
      cases q with
      | error p => exact hp
      | ok td =>
        obtain ⟨t, d⟩ := td
        obtain ⟨g1, g2, g3, g4, g5⟩ := hp
        exact altL_good hD hb a0 n (f.snoc t) d (by omega) g2 (Fo.fit_snoc h2 g3) (by rw [Fo.sz_snoc, Fo.len_snoc]; omega) (by rw [Fo.dp_snoc]; omega)
    · simp only [hc, if_false]
      exact ⟨h0, h1, h2, h3, h4⟩
theorem alt_good {s : ByteArray} {D : Nat} {br : Nat → Out} (hD : 1 ≤ D) (hb : BrGood s D br) (a : Nat) (ha : a ≤ s.size) : GoodA s (D + 3) a (altM br s a) := by
  have h := seq_good hD hb a ha
  unfold altM
  split
  · rename_i p e; rw [e] at h; exact h
  · rename_i t d e
    rw [e] at h
    obtain ⟨g1, g2, g3, g4, g5⟩ := h
    have h := altL_good hD hb a (s.size + 1 - d) (Fo.nil.snoc t) d g1 g2 (Fo.fit_snoc trivial g3) (by rw [Fo.sz_snoc, Fo.len_snoc]; simp [Fo.sz, Fo.len]; omega) (by rw [Fo.dp_snoc]; simp [Fo.dp]; omega)
    split
    · rename_i p e2; rw [e2] at h; exact h
    · rename_i f d2 e2
      rw [e2] at h
      obtain ⟨h1, h2, h3, h4, h5⟩ := h
      rcases tog_cases 3 f with ⟨n, k, rfl, e3⟩ | ⟨hl, e3⟩
      · rw [e3]
        refine ⟨h1, h2, fit_of_one h3, ?_, ?_⟩
        · simp only [szT, Fo.sz, Fo.len] at *; omega
        · simp only [dpT, Fo.dp] at *; omega
      · rw [e3]
        refine ⟨h1, h2, ⟨⟨fun _ => rfl, fun h => (by simp at h), fun _ => ⟨rfl, rfl⟩, .inr (.inr (.inl rfl))⟩, h3⟩, ?_, ?_⟩
        · have : f.len ≠ 1 := hl
          cases f with
          | nil => simp only [szT, Fo.sz, Fo.len] at *; omega
          | cons n k r => simp only [szT, Fo.len] at *; omega
        · simp only [dpT] at *; omega
theorem op_far (s : ByteArray) (a : Nat) (h : a < s.size) : a < (opR s a).1 ∧ (opR s a).1 ≤ s.size := by
  unfold opR
  split
  · rename_i h1
    have := bt_lt (s := s) (k := a + 1) (by omega)
    split
    · rename_i h2
      have := bt_lt (s := s) (k := a + 2) (by omega)
      simp; omega
    · simp; omega
  · simp; omega
theorem br_good (s : ByteArray) : ∀ m, BrGood s (3 * m + 1) (brM s m)
  | 0 => fun a ha => by have := bt_lt (s := s) (k := a) (by omega); show a ≤ s.size; omega
  | m + 1 => fun a ha => by
    have hl := bt_lt (s := s) (k := a) (by omega)
    obtain ⟨o1, o2⟩ := op_far s a hl
    have h := alt_good (by omega) (br_good s m) (opR s a).1 o2
    unfold brM
    split
    · split
      · rename_i p e; rw [e] at h; exact h
      · rename_i t d e
        rw [e] at h
        obtain ⟨g1, g2, g3, g4, g5⟩ := h
        split
        · rename_i h41
          have := bt_lt (s := s) (k := d) (by omega)
          exact ⟨by omega, by omega, g3, by omega, by omega⟩
        · exact g2
    · exact o2
/-- What is read may be. -/
theorem parse_good (s : ByteArray) : match parseM s with
    | .error p => p ≤ s.size
    | .ok t => fitT t ∧ szT t ≤ 2 * s.size + 1 ∧ dpT t ≤ 100 := by
  have h := alt_good (by omega) (br_good s 32) 0 (Nat.zero_le _)
  unfold parseM
  generalize altM (brM s 32) s 0 = q at h ⊢
  cases q with
  | error p => exact h
  | ok td =>
    obtain ⟨t, d⟩ := td
    obtain ⟨g1, g2, g3, g4, g5⟩ := h
    by_cases hd : d = s.size
    · simp only [hd, if_true]
      exact ⟨g3, by omega, by omega⟩
    · simp only [hd, if_false]
      exact g2
end Go.Proofs.YtnbhpojcckhlmaaDoor
