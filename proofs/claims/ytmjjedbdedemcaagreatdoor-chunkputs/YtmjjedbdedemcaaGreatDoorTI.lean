/-
  A range over a function whose iterator turns one block that was there before the loop (a reader that it reads from), and of which something is known at its end: the law, out of the library's base law; so many samples, read.
-/
import Derived.Test.YtmjjedbdedemcaaGreatDoorTH
import Derived.RangeFuncNested
import Derived.RangeFuncBound
import Derived.RangeFuncCalls
import Derived.RangeFuncLeaves
import Derived.RangeFuncFrom
import Derived.Shelf.Abstract
import Derived.Shelf.RegionOpen
import Derived.OwnWalkIn
import Derived.TacticsInMore
import Derived.LoopNIn
import Derived.LoopIn
import Derived.RangeFuncBox
namespace Go.Proofs.YtmjjedbdedemcaaGreatDoor
open Go.RowKit Go.Shelf
set_option linter.unusedVariables false

/-- J stays where the world grows, where a walk's own block turns, and where the block q does, or the fifth one that the iterator lays. -/
def StaysQ {β : Type} (B q : Nat) (J : β → World → Prop) : Prop :=
  ∀ s W W' row, J s W → W.grownBy W' row → (∀ r, row = some r → r = q ∨ r = B + 4 ∨ (B ≤ r ∧ ∃ o : Obj, W.heap[r]? = some o ∧ o.isWalk = true)) → J s W'

/-- What an iterator does that turns the block q. -/
def SeqQ {α : Type} (F : Fence) (n : Nat) (P : Program) (g : Nat) (lb : Array Value) (encs : α → Array Value) (Kp : World → World → Prop) (S : List α → World → Prop) (Sp : List α → Prop) (N q : Nat) (w : World) : Prop :=
  ∀ (l : Nat) (J Jx : List α → World → Prop) (W : World), Below w.heap.size w W → StaysQ W.heap.size q J →
    (∀ pre x W1, J pre W1 → W.heap.size + 4 < W1.heap.size → pre.length < N → YieldAt F (n - 1) P l (encs x) W1 fun e W' =>
      (e = .returned (.bool true) ∧ J (pre ++ [x]) W' ∧ Kp W1 W') ∨ (e = .returned (.bool false) ∧ Jx (pre ++ [x]) W')) →
    J [] W →
    CallsIn F n P g (#[.func (.yield l) #[] #[]] ++ lb) W fun e W' => (∃ v, e = .returned v) ∧ ((∃ xs, S xs W' ∧ J xs W') ∨ (∃ pre, Sp pre ∧ Jx pre W'))

/-- How a round's body is left: it goes on, or the function returns. -/
def LeftQ {α : Type} (Kp : World → World → Prop) (I Ix : List α → World → Prop) (xs : List α) (W : World) : Exit → Act → World → Prop
  | .normal, _, W' => KeepsOthers W W' ∧ Kp W W' ∧ I xs W'
  | .ret, _, W' => KeepsOthers W W' ∧ Ix xs W'
  | _, _, _ => False

section
variable {F : Fence} {n : Nat} {P : Program}
theorem wpIn_rangeQ {α : Type} {g : Operand} {ps : Array Tmp} {assign body : Code} {Q : Exit → Act → World → Prop} {a : Act} {w : World}
    (hro : F.round = none) (h1 : 1 ≤ n) {gf : Nat} {lb : Array Value} (hg : a.eval g = .func (.func gf) #[] lb) (hFg : F.fn gf) (eg : ∀ args w, (callFunc gf args).run P w = .ok (.enter gf args) w)
    {encs : α → Array Value} {Kp : World → World → Prop} {S : List α → World → Prop} {Sp : List α → Prop} {N q : Nat} (hqw : q < w.heap.size) (hseq : SeqQ F (n - 1) P gf lb encs Kp S Sp N q w)
    (hKt : ∀ {A B C : World}, Kp A B → Kp B C → Kp A C) (hKb : ∀ (W : World) (l : Nat) (o o' : Obj), w.heap.size ≤ l → W.heap[l]? = some o → o.isCells = false → o.isWalk = false → Kp W (W.putObj l o')) (hps : ∀ x, (encs x).size = ps.size)
    (hSo : OwnFrom w.heap.size S) (I Ix : List α → World → Prop) (hI : OwnFrom w.heap.size I) (hIx : OwnFrom w.heap.size Ix) (hIq : ∀ s A B r, I s A → A.grownBy B (some r) → r = q ∨ r = w.heap.size + 6 → I s B) (h0 : I [] w) (a₁ : α → World → Act) (A₁ : α → World → World) (hA₁ : ∀ (x : α) (W : World), W.grownBy (A₁ x W) none) (hKA : ∀ (x : α) (W : World), w.heap.size ≤ W.heap.size → Kp W (A₁ x W))
    (hassign : ∀ (l : Nat) (x : α) (W : World) (K : Act → World → Prop), K (a₁ x W) (A₁ x W) →
      assign.wpIn (F.inRound l) (n - 1 - 1) P (Exit.then K (fun _ _ _ => False)) { tmps := (ps.zip (encs x)).foldl (fun t (p, v) => t.setIfInBounds p v) a.tmps, defers := [] } W)
    (hbody : ∀ (l : Nat) (pre : List α) (x : α) (W0 W : World), I pre W → w.heap.size + 6 < W.heap.size → pre.length < N → (∀ (k : Nat) (cs : Array Value) (t : TypeId) (fr : Nat × Nat), (A₁ x W0).heap[k]? = some (Obj.cells cs t fr) → W.heap[k]? = some (Obj.cells cs t fr)) → body.wpIn (F.inRound l) (n - 1 - 1) P (LeftQ Kp I Ix (pre ++ [x]) W) (a₁ x W0) W)
    (hdone : ∀ (D : Nat) (xs : List α) (W : World), w.heap.size ≤ D → S xs W → I xs W → W.heap[D]? = some (.deferred (some [])) → Q .normal { a with defers := { target := .collected D, args := #[] } :: a.defers } W)
    (hstop : ∀ (D : Nat) (pre : List α) (W : World), w.heap.size ≤ D → Sp pre → Ix pre W → W.heap[D]? = some (.deferred (some [])) → Code.ret.wpIn F n P Q { a with defers := { target := .collected D, args := #[] } :: a.defers } W) :
    (Code.rangeFunc g ps assign body).wpIn F n P Q a w := by
  refine wpIn_rangeFunc fun fn hfn => ?_
  rw [hro]
  -- the two blocks that the loop lays: its deferred calls at d, its record at d + 1
  generalize hd : w.heap.size = d at *
  let rc : LoopState → Option Code → Loop := fun st pe => { state := st, pending := pe, fn, tmps := a.tmps, params := ps, assign, body, defers := d }
  let X : World := (w.alloc (.deferred (some []))).alloc (.loop (rc .ready none))
  let At : LoopState → Option Code → World → Prop := fun st pe W => W.heap[d + 1]? = some (.loop (rc st pe)) ∧ W.heap[d]? = some (.deferred (some []))
  have hX : At .ready none X := by
    refine ⟨?_, ?_⟩
    · have := World.alloc_heap_new (w.alloc (.deferred (some []))) (.loop (rc .ready none))
      rwa [World.size_alloc, hd] at this
    · have := World.alloc_heap_new w (.deferred (some []))
      rw [hd] at this
      exact (Below.heap_alloc _ _ _ (by simp [hd])).trans this
  have hIX : I [] X := hI.alloc _ (hI.alloc _ h0)
  have hBX : Below w.heap.size w X := ((Below.refl _ w).alloc (Nat.le_refl _) _).alloc (by simp) _
  have hsz : X.heap.size = d + 2 := by show ((w.alloc _).alloc _).heap.size = _; simp [hd]
  -- what is none of these two stays
  have atStay : ∀ {st pe} {A B : World} {row : Option Nat}, At st pe A → A.grownBy B row → (∀ r, row = some r → r ≠ d ∧ r ≠ d + 1) → At st pe B := fun h hg' hr =>
    ⟨(hg'.block _ (Array.getElem?_eq_some_iff.1 h.1).1 (fun e => (hr _ e.symm).2 rfl)).trans h.1, (hg'.block _ (Array.getElem?_eq_some_iff.1 h.2).1 (fun e => (hr _ e.symm).1 rfl)).trans h.2⟩
  have notWalk : ∀ {st pe} {A : World}, At st pe A → ∀ r, (∃ o : Obj, A.heap[r]? = some o ∧ o.isWalk = true) → r ≠ d ∧ r ≠ d + 1 := fun h r ⟨o, ho, hw⟩ =>
    ⟨(fun e => by rw [e, h.2] at ho; cases ho; cases hw), (fun e => by rw [e, h.1] at ho; cases ho; cases hw)⟩
  refine ⟨d + 1, [{ target := .collected d, args := #[] }], X, { target := .fn (.func gf) lb, args := #[.func (.yield (d + 1)) #[] #[]] }, X, gf, #[.func (.yield (d + 1)) #[] #[]] ++ lb, X, ?_, ?_, ?_, ?_, fun _ => h1, ?_⟩
  · have := run_enterLoop_outer (P := P) fn a.tmps ps assign body (w := w)
    subst hd
    exact this
  · simp only [resolve, hg]
    simp [go_sem]
  · intro f' hf'; simp [Target.leads] at hf'; subst hf'; exact hFg
  · simp [invoke, go_sem, eg]
  · refine (hseq (d + 1) (fun pre W => I pre W ∧ At .ready none W) (fun pre W => Ix pre W ∧ At .done (some .ret) W) X hBX ?_ ?_ ⟨hIX, hX⟩).mono ?_
    · rintro s A B row ⟨hi, ha⟩ hg' hr
      cases row with
      | none => exact ⟨hI s A B none hi hg' (fun r e => by cases e), atStay ha hg' (fun r e => by cases e)⟩
      | some r =>
        rcases hr r rfl with e | e | ⟨hB, o, ho, hw⟩
        · exact ⟨hIq s A B r hi hg' (.inl e), atStay ha hg' (fun r' e' => by cases e'; omega)⟩
        · exact ⟨hIq s A B r hi hg' (.inr (by omega)), atStay ha hg' (fun r' e' => by cases e'; omega)⟩
        · have hB' : d ≤ r := by omega
          exact ⟨hI s A B (some r) hi hg' (fun r' e => by cases e; exact ⟨hB', o, ho, Obj.not_cells_of_walk hw⟩), atStay ha hg' (fun r' e => by cases e; exact notWalk ha r ⟨o, ho, hw⟩)⟩
    · rintro pre x W ⟨hi, ha⟩ hsw hlen
      have hgA := hA₁ x W
      have ha' := atStay ha hgA (fun r e => by cases e)
      have hi' := hI pre W (A₁ x W) none hi hgA (fun r e => by cases e)
      have hlt : d + 1 < (A₁ x W).heap.size := (Array.getElem?_eq_some_iff.1 ha'.1).1
      let B : World := (A₁ x W).putObj (d + 1) (.loop (rc .busy none))
      have hB : At .busy none B := ⟨World.putObj_heap_same hlt, (World.putObj_heap_other (by omega)).trans ha'.2⟩
      have hsB : d + 6 < B.heap.size := by
        have hb : B.heap.size = (A₁ x W).heap.size := by simp [B, World.putObj]
        have := hgA.size
        omega
      have hKB : Kp W B := hKt (hKA x W (by have := (Array.getElem?_eq_some_iff.1 ha.1).1; omega)) (hKb _ _ _ _ (by omega) ha'.1 rfl rfl)
      refine ⟨fn, _, assign, body, run_yield (P := P) (args := encs x) ha.1 (hps x), roundIn_of_wpIn hfn (hassign _ x W _ ⟨_, run_beginRound ha'.1 rfl, ?_⟩)⟩
      refine wpIn_mono (hbody _ pre x W B (hI.putObj _ hi' (by omega) ha'.1 rfl) hsB hlen (fun k cs t fr hk => (World.putObj_heap_other (fun e => by rw [e, ha'.1] at hk; cases hk)).trans hk)) ?_
      -- behind the body
      have ends : ∀ (jump : Option Code) (C : World), KeepsOthers B C → At .busy none C ∧ (Instr.endRound (d + 1) jump).run P C = .ok (.bool jump.isNone) (C.putObj (d + 1) (.loop (rc (if jump.isNone then .ready else .done) jump))) ∧ At (if jump.isNone then .ready else .done) jump (C.putObj (d + 1) (.loop (rc (if jump.isNone then .ready else .done) jump))) := fun jump C hk => by
        have c1 := hk.same _ _ hB.1 rfl
        have c2 := hk.same _ _ hB.2 rfl
        exact ⟨⟨c1, c2⟩, run_endRound (P := P) jump c1, World.putObj_heap_same (Array.getElem?_eq_some_iff.1 c1).1, (World.putObj_heap_other (by omega)).trans c2⟩
      intro e a3 C hp
      cases e with
      | normal =>
        obtain ⟨hk, hkp, hi3⟩ := hp
        obtain ⟨c1, hr, c2⟩ := ends none C hk
        exact ⟨_, _, hr, .inl ⟨rfl, ⟨hI.putObj _ hi3 (by omega) c1.1 rfl, c2⟩, hKt (hKt hKB hkp) (hKb _ _ _ _ (by omega) c1.1 rfl rfl)⟩⟩
      | ret =>
        obtain ⟨hk, hi3⟩ := hp
        obtain ⟨c1, hr, c2⟩ := ends (some .ret) C hk
        exact ⟨_, _, hr, .inr ⟨rfl, hIx.putObj _ hi3 (by omega) c1.1 rfl, c2⟩⟩
      | exit id => exact hp.elim
      | goto t => exact hp.elim
      | panic ch => exact hp.elim
      | outgrown => exact hp.elim
    · rintro e C ⟨⟨v, rfl⟩, ⟨xs, hS, hi, ha⟩ | ⟨pre, hSp, hi, ha⟩⟩
      · exact ⟨none, _, run_endLoop (P := P) ha.1 (by simp [rc]), hdone _ xs _ (Nat.le_refl _) (hSo.putObj _ hS (by omega) ha.1 rfl) (hI.putObj _ hi (by omega) ha.1 rfl) ((World.putObj_heap_other (by omega)).trans ha.2)⟩
      · exact ⟨some .ret, _, run_endLoop (P := P) ha.1 (by simp [rc]), hstop _ pre _ (Nat.le_refl _) hSp (hIx.putObj _ hi (by omega) ha.1 rfl) ((World.putObj_heap_other (by omega)).trans ha.2)⟩
end

theorem rdS_ok1 (i : Nat) : ∀ (z : Z) (V N m : Nat) (ts : List Sm) (P : Nat) (s : Sm) (P' : Nat), rdS i z V N m = some (ts, P) → rd1 (fin z ts) V N P = some (s, P') → rdS (i + 1) z V N m = some (ts ++ [s], P') := by
  induction i with
  | zero =>
    intro z V N m ts P s P' h h1
    simp only [rdS, Option.some.injEq, Prod.mk.injEq] at h
    obtain ⟨rfl, rfl⟩ := h
    simp only [rdS, show fin z [] = z from rfl] at h1 ⊢
    simp [h1]
  | succ i ih =>
    intro z V N m ts P s P' h h1
    rw [rdS] at h
    split at h
    · cases h
    · rename_i s0 m0 h0
      split at h
      · cases h
      · rename_i l p hl
        simp only [Option.some.injEq, Prod.mk.injEq] at h
        obtain ⟨rfl, rfl⟩ := h
        have := ih (nxt z s0) V N m0 l p s P' hl h1
        rw [rdS, h0]
        simp only [this, List.cons_append]
theorem rdS_no1 (i : Nat) : ∀ (z : Z) (V N m : Nat) (ts : List Sm) (P : Nat), rdS i z V N m = some (ts, P) → rd1 (fin z ts) V N P = none → rdS (i + 1) z V N m = none := by
  induction i with
  | zero =>
    intro z V N m ts P h h1
    simp only [rdS, Option.some.injEq, Prod.mk.injEq] at h
    obtain ⟨rfl, rfl⟩ := h
    simp only [rdS, show fin z [] = z from rfl] at h1 ⊢
    simp [h1]
  | succ i ih =>
    intro z V N m ts P h h1
    rw [rdS] at h
    split at h
    · cases h
    · rename_i s0 m0 h0
      split at h
      · cases h
      · rename_i l p hl
        simp only [Option.some.injEq, Prod.mk.injEq] at h
        obtain ⟨rfl, rfl⟩ := h
        have := ih (nxt z s0) V N m0 l p hl h1
        rw [rdS, h0]
        simp only [this]
theorem rdS_stuck {z : Z} {V N m i : Nat} (h : rdS i z V N m = none) : ∀ {n}, i ≤ n → rdS n z V N m = none := by
  intro n hn
  induction n with
  | zero => obtain rfl : i = 0 := by omega
            exact h
  | succ n ih =>
    rcases Nat.lt_or_ge i (n + 1) with h1 | h1
    · have h2 := ih (by omega)
      clear ih h h1 hn
      induction n generalizing z m with
      | zero => simp [rdS] at h2
      | succ n ih2 =>
        rw [rdS] at h2 ⊢
        split at h2
        · rfl
        · rename_i s0 m0 h0
          split at h2
          · rename_i h3
            rw [ih2 h3]
          · cases h2
    · obtain rfl : i = n + 1 := by omega
      exact h
end Go.Proofs.YtmjjedbdedemcaaGreatDoor
