/-
  What was written is what is right: the right sectors of written ones, and the records that they make.
-/
import Derived.Test.YtbaclihlckfndaaDoorO
namespace Go.Proofs.YtbaclihlckfndaaDoor
open Go.RowKit
set_option linter.unusedVariables false

/-- Sectors that follow each other, from a number on, a record being open or not. -/
def Chain : Nat → Bool → List Says → Prop
  | _, _, [] => True
  | nx, op, p :: ps => p.Ok ∧ p.number = nx ∧ decide (p.flags % 2 = 1) ≠ op ∧ Chain (nx + 1) (!decide (2 ≤ p.flags)) ps
def openAfter : Bool → List Says → Bool
  | op, [] => op
  | _, p :: ps => openAfter (!decide (2 ≤ p.flags)) ps
theorem chain_app (ps qs : List Says) : ∀ (nx : Nat) (op : Bool), Chain nx op ps → Chain (nx + ps.length) (openAfter op ps) qs → Chain nx op (ps ++ qs) := by
  induction ps with
  | nil => intro nx op _ h; simpa [openAfter] using h
  | cons p ps ih =>
    intro nx op h1 h2
    refine ⟨h1.1, h1.2.1, h1.2.2.1, ih _ _ h1.2.2.2 ?_⟩
    rw [show nx + 1 + ps.length = nx + (p :: ps).length by simp; omega]
    exact h2
theorem open_app (ps qs : List Says) : ∀ op, openAfter op (ps ++ qs) = openAfter (openAfter op ps) qs := by
  induction ps with
  | nil => intro op; rfl
  | cons p ps ih => intro op; exact ih _
theorem begins_sec {p : Says} (h : p.Ok) (r : List Int) : Begins (p.sec ++ r) p := ⟨h, r, rfl⟩
theorem drop_256 {p : Says} (h : p.Ok) (r : List Int) : (p.sec ++ r).drop 256 = r := by
  rw [List.drop_append_of_le_length (by rw [h.slen]; exact Nat.le_refl _), List.drop_of_length_le (by rw [h.slen]; exact Nat.le_refl _), List.nil_append]
/-- The right sectors of sectors that follow each other are they, if none fits behind them. -/
theorem rights_secs (ps : List Says) (r : List Int) : ∀ (nx : Nat) (op : Bool), Chain nx op ps → (¬ ∃ q, Next (nx + ps.length) (openAfter op ps) r q) → Rights nx op (secs ps ++ r) ps := by
  induction ps with
  | nil => intro nx op _ h; exact Rights.stop nx op r (by simpa [openAfter] using h)
  | cons p ps ih =>
    intro nx op h1 h2
    have e : secs (p :: ps) ++ r = p.sec ++ (secs ps ++ r) := by simp [secs]
    rw [e]
    refine Rights.step nx op _ p ps ⟨begins_sec h1.1 _, h1.2.1, h1.2.2.1⟩ ?_
    rw [drop_256 h1.1]
    refine ih _ _ h1.2.2.2 ?_
    rw [show nx + 1 + ps.length = nx + (p :: ps).length by simp; omega]
    exact h2
theorem rights_once {nx : Nat} {op : Bool} {l : List Int} {ps : List Says} (h : Rights nx op l ps) : ∀ {qs : List Says}, Rights nx op l qs → ps = qs := by
  induction h with
  | stop nx op l hn =>
    intro qs h2
    cases h2 with
    | stop => rfl
    | step _ _ _ p ps hp _ => exact (hn ⟨p, hp⟩).elim
  | step nx op l p ps hp hs ih =>
    intro qs h2
    cases h2 with
    | stop _ _ _ hn => exact (hn ⟨p, hp⟩).elim
    | step _ _ _ q qs hq hs2 =>
      obtain rfl : p = q := (begins_cand hp.1).trans (begins_cand hq.1).symm
      rw [ih hs2]

theorem chain_cutR (k : Nat) : ∀ (nx fl : Nat) (x : List Int), x.length ≤ k → fl ≤ 1 → Byts x → nx + (cutR nx fl x).length ≤ 4294967296 → Chain nx (decide (fl = 0)) (cutR nx fl x) ∧ openAfter (decide (fl = 0)) (cutR nx fl x) = false := by
  induction k using Nat.strongRecOn with
  | ind k ih =>
    intro nx fl x hx hf hb hn
    have hd : decide (fl % 2 = 1) ≠ decide (fl = 0) := by
      rcases (show fl = 0 ∨ fl = 1 by omega) with rfl | rfl <;> decide
    by_cases h : 244 < x.length
    · rw [cutR_long h] at hn ⊢
      simp only [List.length_cons] at hn
      have h0 := ih (x.length - 244) (by omega) (nx + 1) 0 (x.drop 244) (by simp) (by omega) (hb.drop _) (by omega)
      have e : (!decide (2 ≤ fl)) = decide ((0 : Nat) = 0) := by simp; omega
      refine ⟨⟨⟨by show nx < _; omega, by simp; omega, hb.take _, by show fl ≤ 3; omega, .inl (by simp; omega)⟩, rfl, hd, ?_⟩, ?_⟩
      · show Chain (nx + 1) (!decide (2 ≤ fl)) _
        rw [e]; exact h0.1
      · show openAfter (!decide (2 ≤ fl)) _ = false
        rw [e]; exact h0.2
    · rw [cutR_short (by omega)] at hn ⊢
      simp only [List.length_singleton] at hn
      refine ⟨⟨⟨by show nx < _; omega, by show x.length ≤ 244; omega, hb, by show fl + 2 ≤ 3; omega, .inr (by show 2 ≤ fl + 2; omega)⟩, rfl, ?_, trivial⟩, ?_⟩
      · show decide ((fl + 2) % 2 = 1) ≠ decide (fl = 0)
        rw [show (fl + 2) % 2 = fl % 2 by omega]; exact hd
      · show (!decide (2 ≤ fl + 2)) = false
        simp
theorem chain_cutAll (ls : List (List Int)) : ∀ (nx : Nat), (∀ x ∈ ls, Byts x) → nx + (cutAll nx ls).length ≤ 4294967296 → Chain nx false (cutAll nx ls) ∧ openAfter false (cutAll nx ls) = false := by
  induction ls with
  | nil => intro nx _ _; exact ⟨trivial, rfl⟩
  | cons x ls ih =>
    intro nx hb hn
    simp only [cutAll, List.length_append] at hn ⊢
    have h1 := chain_cutR x.length nx 1 x (Nat.le_refl _) (Nat.le_refl _) (hb x (by simp)) (by omega)
    have h2 := ih (nx + (cutR nx 1 x).length) (fun y hy => hb y (by simp [hy])) (by omega)
    have e : decide ((1 : Nat) = 0) = false := rfl
    rw [e] at h1
    refine ⟨chain_app _ _ _ _ h1.1 ?_, ?_⟩
    · rw [h1.2]; exact h2.1
    · rw [open_app, h1.2]; exact h2.2

/-- What Read has behind some sectors. -/
structure St where
  recs : List (List Int)
  cur : List Int
  seen : Nat
  good : Nat
def St.step (s : St) (p : Says) : St := if 2 ≤ p.flags then ⟨s.recs ++ [s.cur ++ p.bytes], [], s.seen + 1, s.seen + 1⟩ else ⟨s.recs, s.cur ++ p.bytes, s.seen + 1, s.good⟩
def St.run (s : St) (ps : List Says) : St := ps.foldl St.step s
def St.none : St := ⟨[], [], 0, 0⟩
theorem run_app (s : St) (ps qs : List Says) : s.run (ps ++ qs) = (s.run ps).run qs := by simp [St.run]
theorem run_cutR (k : Nat) : ∀ (nx fl : Nat) (x : List Int) (s : St), x.length ≤ k → fl ≤ 1 → s.run (cutR nx fl x) = ⟨s.recs ++ [s.cur ++ x], [], s.seen + (cutR nx fl x).length, s.seen + (cutR nx fl x).length⟩ := by
  induction k using Nat.strongRecOn with
  | ind k ih =>
    intro nx fl x s hx hf
    by_cases h : 244 < x.length
    · rw [cutR_long h]
      have e : s.step ⟨nx, x.take 244, fl⟩ = ⟨s.recs, s.cur ++ x.take 244, s.seen + 1, s.good⟩ := by unfold St.step; rw [if_neg (by show ¬ 2 ≤ fl; omega)]
      show (s.step _).run _ = _
      rw [e, ih (x.length - 244) (by omega) _ _ _ _ (by simp) (by omega)]
      simp [List.append_assoc]
      omega
    · rw [cutR_short (by omega)]
      simp only [St.run, List.foldl_cons, List.foldl_nil, St.step, List.length_singleton]
      rw [if_pos (show 2 ≤ fl + 2 by omega)]
theorem run_cutAll (ls : List (List Int)) : ∀ (nx : Nat) (s : St), s.cur = [] → s.good = s.seen → s.run (cutAll nx ls) = ⟨s.recs ++ ls, [], s.seen + needL ls, s.seen + needL ls⟩ := by
  induction ls with
  | nil =>
    intro nx s h1 h2
    obtain ⟨recs, cur, seen, good⟩ := s
    simp only at h1 h2
    subst h1 h2
    simp [St.run, cutAll, needL]
  | cons x ls ih =>
    intro nx s h1 h2
    simp only [cutAll]
    rw [run_app, run_cutR x.length _ _ _ _ (Nat.le_refl _) (by omega), ih _ _ rfl rfl, h1]
    simp [needL, cutR_len x.length nx 1 x (Nat.le_refl _)]
    omega
end Go.Proofs.YtbaclihlckfndaaDoor
