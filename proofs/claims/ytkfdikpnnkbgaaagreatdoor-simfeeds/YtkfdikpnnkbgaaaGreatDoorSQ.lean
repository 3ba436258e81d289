/-
  A range over an iterator that turns a block of its own; slices.Collect of numbers.
-/
import Derived.Test.YtkfdikpnnkbgaaaGreatDoorSP
import Derived.Maps.AppendAt
namespace Go.Proofs.YtkfdikpnnkbgaaaGreatDoor
open Go.RowKit Go.Shelf
set_option linter.unusedVariables false
set_option linter.unusedSimpArgs false
attribute [local go_sem] Oper.semAt_some

/-- What is told abides when the block B turns. -/
def TurnsAt {β : Type} (B : Nat) (J : β → World → Prop) : Prop := ∀ s W W', J s W → W.grownBy W' (some B) → J s W'
/-- What an iterator hands out that turns, besides, the one block where the heap ended when it was called. -/
def SeqP {α : Type} (F : Fence) (n : Nat) (P : Program) (g : Nat) (lb : Array Value) (encs : α → Array Value) (Kp : Nat → World → World → Prop) (S Sp : List α → Prop) (N : Nat) (w : World) : Prop :=
  ∀ (l : Nat) (J Jx : List α → World → Prop) (W : World), Below w.heap.size w W → OwnFrom W.heap.size J → OwnFrom W.heap.size Jx → TurnsAt W.heap.size J → TurnsAt W.heap.size Jx →
    (∀ pre x W1, J pre W1 → pre.length < N → W.heap.size < W1.heap.size → YieldAt F (n - 1) P l (encs x) W1 fun e W' =>
      KeepsFrom W.heap.size W1 W' ∧ ((e = .returned (.bool true) ∧ J (pre ++ [x]) W' ∧ Kp W.heap.size W1 W') ∨ (e = .returned (.bool false) ∧ Jx (pre ++ [x]) W'))) →
    J [] W →
    CallsIn F n P g (#[.func (.yield l) #[] #[]] ++ lb) W fun e W' => (∃ v, e = .returned v) ∧ ((∃ xs, S xs ∧ J xs W') ∨ (∃ pre, Sp pre ∧ Jx pre W'))
theorem turn_record {α : Type} {B l D : Nat} {I : List α → World → Prop} {o1 o2 : Obj} (hI : TurnsAt B I) (hl : l ≠ B) (hD : D ≠ B) : TurnsAt B (fun pre W => I pre W ∧ W.heap[l]? = some o1 ∧ W.heap[D]? = some o2) := fun s A A' hs hg =>
  ⟨hI s A A' hs.1 hg, (hg.block l (Array.getElem?_eq_some_iff.1 hs.2.1).1 (fun e => hl (by cases e; rfl))).trans hs.2.1, (hg.block D (Array.getElem?_eq_some_iff.1 hs.2.2).1 (fun e => hD (by cases e; rfl))).trans hs.2.2⟩
section
variable {F : Fence} {n : Nat} {P : Program} {w : World}
/-- The range. -/
theorem wpIn_rangeP {α : Type} {g : Operand} {ps : Array Tmp} {assign body : Code} {Q : Exit → Act → World → Prop} {a : Act}
    (hro : F.round = none) (h1 : 1 ≤ n) {gf : Nat} {lb : Array Value} (hg : a.eval g = .func (.func gf) #[] lb) (hFg : F.fn gf) (eg : ∀ args w, (callFunc gf args).run P w = .ok (.enter gf args) w)
    {encs : α → Array Value} {Kp : Nat → World → World → Prop} {S Sp : List α → Prop} {N : Nat} {w0 : World} (hseq : SeqP F (n - 1) P gf lb encs Kp S Sp N w0)
    (hKt : ∀ {A B C : World}, Kp (w.heap.size + 2) A B → Kp (w.heap.size + 2) B C → Kp (w.heap.size + 2) A C) (hKb : ∀ (W : World) (l : Nat) (o o' : Obj), w.heap.size ≤ l → W.heap[l]? = some o → o.isCells = false → o.isWalk = false → Kp (w.heap.size + 2) W (W.putObj l o')) (hb0 : Below w0.heap.size w0 w) (hps : ∀ x, (encs x).size = ps.size)
    (I : List α → World → Prop) (Ix : Code → List α → World → Prop) (hI : OwnFrom w.heap.size I) (hIx : ∀ c, OwnFrom w.heap.size (Ix c)) (h0 : I [] w) (hIt : TurnsAt (w.heap.size + 2) I) (hIxt : ∀ c, TurnsAt (w.heap.size + 2) (Ix c)) (Ax : α → Act → World → Prop) (hAx : ∀ x a', OwnFrom w.heap.size (fun (_ : Unit) W => Ax x a' W))
    (hassign : ∀ (l : Nat) (pre : List α) (x : α) (W : World) (K : Act → World → Prop), I pre W → (∀ a' W', KeepsFrom w.heap.size W W' → Kp (w.heap.size + 2) W W' → I pre W' → Ax x a' W' → K a' W') →
      assign.wpIn (F.inRound l) (n - 1 - 1) P (Exit.then K (fun _ _ _ => False)) { tmps := (ps.zip (encs x)).foldl (fun t (p, v) => t.setIfInBounds p v) a.tmps, defers := [] } W)
    (hbody : ∀ (l : Nat) (pre : List α) (x : α) (a' : Act) (W : World), w.heap.size ≤ l → (∃ r, W.heap[l]? = some (.loop r)) → I pre W → Ax x a' W → pre.length < N → w.heap.size + 2 < W.heap.size → body.wpIn (F.inRound l) (n - 1 - 1) P (ownPostG w.heap.size (Kp (w.heap.size + 2)) I Ix (pre ++ [x]) W) a' W)
    (hdone : ∀ (D : Nat) (xs : List α) (W : World), w.heap.size ≤ D → S xs → I xs W → W.heap[D]? = some (.deferred (some [])) → Q .normal { a with defers := { target := .collected D, args := #[] } :: a.defers } W)
    (hstop : ∀ (D : Nat) (c : Code) (pre : List α) (W : World), w.heap.size ≤ D → Sp pre → Ix c pre W → W.heap[D]? = some (.deferred (some [])) → c.wpIn F n P Q { a with defers := { target := .collected D, args := #[] } :: a.defers } W) :
    (Code.rangeFunc g ps assign body).wpIn F n P Q a w := by
  refine wpIn_rangeFunc ?_
  intro fn hfn
  rw [hro]
  obtain ⟨rec, hrec⟩ : ∃ rec : LoopState → Option Code → Loop, rec = fun st pe => { state := st, pending := pe, fn, tmps := a.tmps, params := ps, assign, body, defers := w.heap.size } := ⟨_, rfl⟩
  obtain ⟨W1, hW1⟩ : ∃ W1, (w.alloc (.deferred (some []))).alloc (.loop (rec .ready none)) = W1 := ⟨_, rfl⟩
  have hs1 : W1.heap.size = w.heap.size + 2 := by rw [← hW1]; simp
  have hL1 : W1.heap[w.heap.size + 1]? = some (.loop (rec .ready none)) := by
    rw [← hW1]; have := World.alloc_heap_new (w.alloc (.deferred (some []))) (.loop (rec .ready none)); rwa [World.size_alloc] at this
  have hK1 : W1.heap[w.heap.size]? = some (.deferred (some [])) := by
    rw [← hW1]; exact (Below.heap_alloc _ _ _ (by simp)).trans (World.alloc_heap_new w _)
  have hI1 : I [] W1 := by rw [← hW1]; exact hI.alloc _ (hI.alloc _ h0)
  have hb1 : Below w0.heap.size w0 W1 := by
    rw [← hW1]; exact hb0.trans ((((Below.refl _ w).alloc (Nat.le_refl _) _).alloc (by simp) _).mono hb0.size)
  have up : ∀ {J : List α → World → Prop}, OwnFrom w.heap.size J → OwnFrom W1.heap.size J := fun h s A A' row hs hg hr => h s A A' row hs hg (fun r e => ⟨by have := (hr r e).1; omega, (hr r e).2⟩)
  refine ⟨w.heap.size + 1, [{ target := .collected w.heap.size, args := #[] }], W1, { target := .fn (.func gf) lb, args := #[.func (.yield (w.heap.size + 1)) #[] #[]] }, W1, gf,
    #[.func (.yield (w.heap.size + 1)) #[] #[]] ++ lb, W1, ?_, ?_, ?_, ?_, fun _ => h1, ?_⟩
  · rw [← hW1, hrec]; exact run_enterLoop_outer _ _ _ _ _
  · simp only [resolve, hg]
    simp [go_sem]
  · intro f' hf'; simp [Target.leads] at hf'; subst hf'; exact hFg
  · simp [invoke, go_sem, eg]
  · refine (hseq (w.heap.size + 1)
      (fun pre W => I pre W ∧ W.heap[w.heap.size + 1]? = some (.loop (rec .ready none)) ∧ W.heap[w.heap.size]? = some (.deferred (some [])))
      (fun pre W => ∃ c, Ix c pre W ∧ W.heap[w.heap.size + 1]? = some (.loop (rec .done (some c))) ∧ W.heap[w.heap.size]? = some (.deferred (some [])))
      W1 hb1 (own_record (up hI) (by omega) (by omega))
      (fun s A A' row hs hg' hr => by
        obtain ⟨c, hc⟩ := hs
        exact ⟨c, own_record (up (hIx c)) (by omega) (by omega) s A A' row hc hg' hr⟩)
      (by rw [hs1]; exact turn_record hIt (by omega) (by omega))
      (fun s A A' hs hg' => by
        obtain ⟨c, hc⟩ := hs
        rw [hs1] at hg'
        exact ⟨c, turn_record (hIxt c) (by omega) (by omega) s A A' hc hg'⟩)
      ?_ ⟨hI1, hL1, hK1⟩).mono ?_
    · rintro pre x W ⟨hi, hl, hk⟩ hlen hsz
      have hy := run_yield (P := P) (args := encs x) hl (by rw [hrec]; exact hps x)
      rw [hrec] at hy
      refine ⟨fn, _, assign, body, hy, roundIn_of_wpIn hfn (hassign _ pre x W _ hi ?_)⟩
      clear hy
      intro a' Wa hkfa hkpa hia hax
      have hla := hkfa.same _ _ (by omega) hl rfl
      have hka := hkfa.same _ _ (Nat.le_refl _) hk rfl
      have hlt : w.heap.size + 1 < Wa.heap.size := (Array.getElem?_eq_some_iff.1 hla).1
      refine ⟨_, run_beginRound hla (by rw [hrec]), ?_⟩
      obtain ⟨Wb, hWb⟩ : ∃ Wb, Wb = Wa.putObj (w.heap.size + 1) (.loop { rec .ready none with state := .busy }) := ⟨_, rfl⟩
      have hl2 : Wb.heap[w.heap.size + 1]? = some (.loop { rec .ready none with state := .busy }) := by rw [hWb]; exact World.putObj_heap_same hlt
      have hk2 : Wb.heap[w.heap.size]? = some (.deferred (some [])) := by rw [hWb]; exact (World.putObj_heap_other (by omega)).trans hka
      have hw2 : Kp (w.heap.size + 2) Wa Wb := by rw [hWb]; exact hKb _ _ _ _ (by omega) hla rfl rfl
      have hib : I pre Wb := by rw [hWb]; exact hI.putObj _ hia (by omega) hla rfl
      have hab : Ax x a' Wb := by rw [hWb]; exact (hAx x a').putObj (s := ()) _ hax (by omega) hla rfl
      have hkf2 : KeepsFrom W1.heap.size W Wb := (KeepsFrom.trans ⟨hkfa.size, fun k o hk => hkfa.same k o (by omega)⟩ (by rw [hWb]; exact keeps_put (by omega)))
      rw [← hWb]
      refine wpIn_mono (hbody _ pre x a' _ (by omega) ⟨_, hl2⟩ hib hab hlen (by rw [hWb]; have := hkfa.size; simp [World.putObj]; omega)) ?_
      have fin : ∀ (jump : Option Code) (W3 : World), KeepsFrom w.heap.size Wb W3 →
          (Instr.endRound (w.heap.size + 1) jump).run P W3 = .ok (.bool jump.isNone) (W3.putObj (w.heap.size + 1) (.loop (rec (if jump.isNone then .ready else .done) jump))) ∧
          W3.heap[w.heap.size + 1]? = some (.loop { rec .ready none with state := .busy }) ∧
          (W3.putObj (w.heap.size + 1) (.loop (rec (if jump.isNone then .ready else .done) jump))).heap[w.heap.size + 1]? = some (.loop (rec (if jump.isNone then .ready else .done) jump)) ∧
          (W3.putObj (w.heap.size + 1) (.loop (rec (if jump.isNone then .ready else .done) jump))).heap[w.heap.size]? = some (.deferred (some [])) ∧
          KeepsFrom W1.heap.size W (W3.putObj (w.heap.size + 1) (.loop (rec (if jump.isNone then .ready else .done) jump))) := fun jump W3 hk3 => by
        have hl3 := hk3.same _ _ (by omega) hl2 rfl
        have := run_endRound (P := P) jump hl3
        rw [hrec] at this ⊢
        refine ⟨this, by rw [hrec] at hl3; exact hl3, World.putObj_heap_same (Array.getElem?_eq_some_iff.1 hl3).1, (World.putObj_heap_other (by omega)).trans (hk3.same _ _ (Nat.le_refl _) hk2 rfl), ?_⟩
        exact hkf2.trans (KeepsFrom.trans ⟨hk3.size, fun k o hk => hk3.same k o (by omega)⟩ (keeps_put (by omega)))
      rintro e a3 W3 hp
      cases e with
      | normal =>
        obtain ⟨hk3, hkp3, hi3⟩ := hp
        obtain ⟨hr, hl3, hl4, hk4, hkf⟩ := fin none W3 hk3
        exact ⟨_, _, hr, hkf, .inl ⟨rfl, ⟨hI.putObj _ hi3 (by omega) hl3 rfl, hl4, hk4⟩, by rw [hs1]; exact hKt hkpa (hKt (hKt hw2 hkp3) (hKb _ _ _ _ (by omega) hl3 rfl rfl))⟩⟩
      | ret =>
        obtain ⟨hk3, hi3⟩ := hp
        obtain ⟨hr, hl3, hl4, hk4, hkf⟩ := fin (some .ret) W3 hk3
        exact ⟨_, _, hr, hkf, .inr ⟨rfl, .ret, (hIx _).putObj _ hi3 (by omega) hl3 rfl, hl4, hk4⟩⟩
      | exit id =>
        obtain ⟨hk3, hi3⟩ := hp
        obtain ⟨hr, hl3, hl4, hk4, hkf⟩ := fin (some (.exit id)) W3 hk3
        exact ⟨_, _, hr, hkf, .inr ⟨rfl, .exit id, (hIx _).putObj _ hi3 (by omega) hl3 rfl, hl4, hk4⟩⟩
      | goto t =>
        obtain ⟨hk3, hi3⟩ := hp
        obtain ⟨hr, hl3, hl4, hk4, hkf⟩ := fin (some (.goto t)) W3 hk3
        exact ⟨_, _, hr, hkf, .inr ⟨rfl, .goto t, (hIx _).putObj _ hi3 (by omega) hl3 rfl, hl4, hk4⟩⟩
      | panic ch => exact hp.elim
      | outgrown => exact hp.elim
    · rintro e W2 ⟨⟨v, rfl⟩, (⟨xs, hS, hi, hl, hk⟩ | ⟨pre, hSp, c, hi, hl, hk⟩)⟩
      · exact ⟨none, _, by have := run_endLoop (P := P) hl (by rw [hrec]; simp); rw [hrec] at this; exact this, hdone _ xs _ (Nat.le_refl _) hS (hI.putObj _ hi (by omega) hl rfl) ((World.putObj_heap_other (by omega)).trans hk)⟩
      · exact ⟨some c, _, by have := run_endLoop (P := P) hl (by rw [hrec]; simp); rw [hrec] at this; exact this, hstop _ c pre _ (Nat.le_refl _) hSp ((hIx c).putObj _ hi (by omega) hl rfl) ((World.putObj_heap_other (by omega)).trans hk)⟩
end
def cellsI (q : List Nat) : List Value := q.map (fun k : Nat => Value.int .i64 (k : Int))
/-- A box that holds a list of one's own. -/
structure ApI (w0 : World) (g2 base : Nat) (pre : List Nat) (W : World) : Prop where
  row : ∃ v, W.heap[g2]? = some (.cells #[v] 54 (0, 0)) ∧ W.ownsRow base 3 1 v pre.length (cellsI pre)
  bel : Below w0.heap.size w0 W
theorem ownI_one {w : World} {base n : Nat} {v : Value} {xs : List Value} (h : w.ownsRow base 3 1 v n xs) : v.oneCell' = true := by
  rcases h.2 with ⟨rfl, _⟩ | ⟨_, _, _, rfl, _⟩ <;> rfl
theorem owns_kept {w w' : World} {base n : Nat} {v : Value} {xs : List Value} (h : w.ownsRow base 3 1 v n xs) (hk : ∀ k cur, base ≤ k → w.heap[k]? = some (.cells cur 3 (0, 0)) → w'.heap[k]? = some (.cells cur 3 (0, 0))) : w'.ownsRow base 3 1 v n xs := by
  refine ⟨h.1, ?_⟩
  rcases h.2 with h1 | ⟨g, cap, cur, rfl, h2, h3, h4⟩
  · exact .inl h1
  · exact .inr ⟨g, cap, cur, rfl, h2, hk g cur h2 h3, h4⟩
theorem ApI.own {w0 : World} {g2 base B : Nat} {pre : List Nat} {W W' : World} {row : Option Nat} (h : ApI w0 g2 base pre W) (hB : w0.heap.size ≤ B) (hg : W.grownBy W' row) (hr : ∀ r, row = some r → B ≤ r ∧ ∃ o : Obj, W.heap[r]? = some o ∧ o.isCells = false) : ApI w0 g2 base pre W' := by
  have ne : ∀ g xs t, W.heap[g]? = some (.cells xs t (0, 0)) → some g ≠ row := fun g xs t h e => by
    obtain ⟨_, o, ho, hc⟩ := hr g e.symm
    rw [h] at ho
    cases ho
    cases hc
  obtain ⟨v, h1, h2⟩ := h.row
  exact ⟨⟨v, (hg.block g2 (Array.getElem?_eq_some_iff.1 h1).1 (ne _ _ _ h1)).trans h1, owns_kept h2 (fun k cur _ e => (hg.block k (Array.getElem?_eq_some_iff.1 e).1 (ne _ _ _ e)).trans e)⟩, h.bel.grown hg h.bel.size (fun k e => by have := (hr k e).1; omega)⟩
theorem ApI.turn {w0 : World} {g2 base B : Nat} (hB : w0.heap.size ≤ B) (h2 : g2 ≠ B) (hb : B < base) : TurnsAt B (ApI w0 g2 base) := fun pre W W' h hg => by
  obtain ⟨v, h1, h3⟩ := h.row
  exact ⟨⟨v, (hg.block g2 (Array.getElem?_eq_some_iff.1 h1).1 (fun e => h2 (by cases e; rfl))).trans h1, owns_kept h3 (fun k cur hk e => (hg.block k (Array.getElem?_eq_some_iff.1 e).1 (fun e2 => by cases e2; omega)).trans e)⟩, h.bel.grown hg h.bel.size (fun k e => by cases e; omega)⟩
theorem ApI.push {w0 : World} {g2 base : Nat} {pre : List Nat} {W : World} (h : ApI w0 g2 base pre W) (hg : g2 < base) (h0 : w0.heap.size ≤ g2) (hb : base ≤ W.heap.size) (hl : pre.length ≤ 1000000) (z : Nat) :
    ∃ v v' w', W.heap[g2]? = some (.cells #[v] 54 (0, 0)) ∧ (Builtin.append_ #[54, 54] 54 #[v, .slice (some ⟨W.heap.size, 0, none⟩) 1 1]).run Tryz.prog (W.alloc (.cells #[.int .i64 (z : Int)] 3)) = .ok v' w' ∧ w'.heap[g2]? = some (.cells #[v] 54 (0, 0)) ∧ v'.oneCell' = true ∧
      ApI w0 g2 base (pre ++ [z]) (w'.setCell ⟨g2, 0, none⟩ v') ∧ But (fun k => k = g2 ∨ base ≤ k ∧ ∃ cur, W.heap[k]? = some (.cells cur 3 (0, 0))) W (w'.setCell ⟨g2, 0, none⟩ v') := by
  obtain ⟨v, h1, h2⟩ := h.row
  obtain ⟨i, hi, hz, hs, hby⟩ := info3
  have l2 := (Array.getElem?_eq_some_iff.1 h1).1
  have hold : ∀ b, b < W.heap.size → (W.alloc (.cells #[.int .i64 (z : Int)] 3)).heap[b]? = W.heap[b]? := fun b hb => Below.heap_alloc _ _ _ hb
  have ho1 : (W.alloc (.cells #[.int .i64 (z : Int)] 3)).ownsRow base 3 1 v pre.length (cellsI pre) := owns_kept h2 (fun k cur _ e => (hold k (Array.getElem?_eq_some_iff.1 e).1).trans e)
  obtain ⟨v', w', r1, r2, r3, _, r5⟩ := run_append_own_at (P := Tryz.prog) (W.alloc (.cells #[.int .i64 (z : Int)] 3)) base 54 54 3 i (.int .i64 0) 1 8 Tryz.underlying54 hi hz hs hby rfl (by decide) v pre.length (cellsI pre) ho1 ⟨W.heap.size, 0, none⟩ 1 1 [.int .i64 (z : Int)] rfl (fun j u hj => by
    rw [add_plain, Nat.zero_add, cell_of_row _ _ _ _ _ _ (heap_alloc_new W _)]
    simpa using hj) (fun u hu => by rw [List.mem_singleton.1 hu]; rfl) (by unfold maxLen; omega) (by omega) (by simp; omega)
  have hvb : ∀ k, v.ownBlock = some k → base ≤ k ∧ ∃ cur, W.heap[k]? = some (.cells cur 3 (0, 0)) := fun k e => by
    rcases h2.2 with ⟨rfl, _⟩ | ⟨g, cap, cur, rfl, q1, q2, _⟩
    · cases e
    · cases e; exact ⟨q1, cur, q2⟩
  have hnw : ∀ k, k < W.heap.size → v.ownBlock ≠ some k → w'.heap[k]? = W.heap[k]? := fun k hk hn => (r3.block k (by simp; omega) (fun e => hn e.symm)).trans (hold k hk)
  have hv2 : v.ownBlock ≠ some g2 := fun e => by have := (hvb g2 e).1; omega
  have e2 := (hnw g2 l2 hv2).trans h1
  have ot : ∀ k, k ≠ g2 → (w'.setCell ⟨g2, 0, none⟩ v').heap[k]? = w'.heap[k]? := fun k hk => Below.heap_setCell w' ⟨g2, 0, none⟩ _ k hk
  have hsz := r3.size
  simp at hsz
  have hB : But (fun k => k = g2 ∨ base ≤ k ∧ ∃ cur, W.heap[k]? = some (.cells cur 3 (0, 0))) W (w'.setCell ⟨g2, 0, none⟩ v') := ⟨by have := r3.os; exact this, by have := r3.tape; exact this, by have := r3.output; exact this, by simp [World.setCell]; omega, fun k hk hn => by
    rw [ot k (fun e => hn (.inl e))]
    exact hnw k hk (fun e => hn (.inr (hvb k e)))⟩
  refine ⟨v, v', w', h1, r1, e2, ownI_one r2, ⟨⟨v', heap_setCell_same w' g2 0 _ 54 _ e2, ?_⟩, ?_⟩, hB⟩
  · have := owns_kept (w' := w'.setCell ⟨g2, 0, none⟩ v') r2 (fun k cur hk e => (ot k (by omega)).trans e)
    simpa [cellsI] using this
  · exact h.bel.trans (hB.below (by have := h.bel.size; omega) (fun k e => by have := h.bel.size; omega))
set_option maxHeartbeats 4000000 in
set_option maxRecDepth 100000 in
theorem appseq_in (n : Nat) (hn : 3 ≤ n) (gf : Nat) (lb : Array Value) (B0 N : Nat) (hN : N ≤ 100000) (S : List Nat → Prop) (w : World) (hB0 : B0 ≤ w.heap.size) (eg : ∀ args w, (callFunc gf args).run Tryz.prog w = .ok (.enter gf args) w)
    (hseq : SeqP Fence.wide (n - 1) Tryz.prog gf lb encO (fun B => Kc (fun k => B0 ≤ k ∧ k ≠ B)) S (fun _ => True) N w) :
    CallsIn Fence.wide n Tryz.prog 81 #[.slice none 0 0, .func (.func gf) #[] lb] w fun e w' => ∃ v xs, e = .returned v ∧ S xs ∧ w'.ownsRow w.heap.size 3 1 v xs.length (cellsI xs) ∧ Below w.heap.size w w' := by
  have hal := heap_alloc_new w (.cells #[.slice none 0 0] 54)
  have B1 : Below w.heap.size w (w.alloc (.cells #[.slice none 0 0] 54)) := (Below.refl _ w).alloc (Nat.le_refl _) _
  have hs1 : (w.alloc (.cells #[.slice none 0 0] 54)).heap.size = w.heap.size + 1 := by simp
  replace hseq := hide hseq
  have hbx : ∀ (a : Act) (x : Operand) (dst : Option Nat) (ty : TypeId) (pos : String) (after : Array Edge), a.eval x = .slice none 0 0 → (execOp a.eval ⟨dst, .box 54 x, ty, pos, after, none⟩).run Tryz.prog w = .ok (.value (.pointer (some ⟨w.heap.size, 0, none⟩))) (w.alloc (.cells #[.slice none 0 0] 54)) := fun a x dst ty pos after hx => by
    unfold execOp
    simp only [hx]
    kernel_rfl
  refine callsIn_of_wp_marks Tryz.func81 rfl trivial ?_ rfl
  simp only [Tryz.ntmps81, List.size_toArray, List.length_cons, List.length_nil, Nat.reduceAdd, Nat.reduceSub, Array.replicate_succ, Array.replicate_zero, List.push_toArray, List.append_toArray, List.nil_append, List.cons_append]
  gi_wp2_with (first | ((with_reducible refine atI_box 54 ?_); refine wlI_val wide_fn (fun c => nofun) (hbx _ _ _ _ _ _ rfl) ?_))
  generalize hw1 : w.alloc (.cells #[.slice none 0 0] 54) = w1 at *
  replace hw1 := hide hw1
  replace hal := hide hal
  have I0 : ApI w w.heap.size (w1.heap.size + 3) [] w1 := ⟨⟨_, hal.out, rfl, .inl ⟨rfl, rfl⟩⟩, B1⟩
  refine wpIn_rangeP rfl (by omega) (gf := gf) (lb := lb) rfl (wide_fn gf) eg
    hseq.out (fun h k => h.trans k) (fun Wd l o o' hl ho hc _ => ⟨by simp [World.putObj], fun k cs t fr _ e => (World.putObj_heap_other (fun h => by rw [h, ho] at e; cases e; cases hc)).trans e⟩) B1 (fun _ => rfl)
    (fun pr Wd => ApI w w.heap.size (w1.heap.size + 3) pr Wd)
    (fun _ _ _ => False)
    (fun pr Wd Wd' row hs hg hr => hs.own (by omega) hg hr)
    (fun _ _ _ _ _ hs _ _ => hs)
    I0 (ApI.turn (by omega) (by omega) (by omega)) (fun _ _ _ _ hs _ => hs)
    (fun z a' Wd => ∃ u0 u1 u3 u4 u6 u7 u8 u9 u10 u11 u12 : Value, a' = { tmps := #[u0, u1, .pointer (some ⟨w.heap.size, 0, none⟩), u3, u4, .int .i64 (z : Int), u6, u7, u8, u9, u10, u11, u12], defers := [] })
    (fun x a' _ Wd Wd' row hs hg hr => hs) ?assign ?body ?done ?stop
  case assign =>
    intro l pr x Wd K hi hK
    simp only [encO, List.zip_toArray, List.zip_cons_cons, List.zip_nil_left, List.zip_nil_right, List.foldl_toArray, List.foldl_cons, List.foldl_nil, List.setIfInBounds_toArray, List.set_cons_zero, List.set_cons_succ]
    replace hK := hide hK
    replace hi := hide hi
    gi_wp2
    exact hK.out _ Wd ⟨Nat.le_refl _, fun _ _ _ h _ => h⟩ (Kc.refl _ _) hi.out ⟨_, _, _, _, _, _, _, _, _, _, _, rfl⟩
  case body =>
    rintro l pr x a' Wd hl ⟨r, hr⟩ hs ⟨u0, u1, u3, u4, u6, u7, u8, u9, u10, u11, u12, rfl⟩ hlt hsz
    obtain ⟨v, v', wx, e6, hrun, e6', hone, hs', hb'⟩ := hs.push (by omega) (Nat.le_refl _) (by omega) (by omega) x
    have c6 := cell_row e6 0 (v := v) rfl
    have hKF : KeepsFrom w1.heap.size Wd (wx.setCell ⟨w.heap.size, 0, none⟩ v') := ⟨hb'.size, fun k o hk ho hcs => (hb'.block k (Array.getElem?_eq_some_iff.1 ho).1 (fun h => by
      rcases h with h | ⟨_, cur, h⟩
      · omega
      · rw [ho] at h; cases h; cases hcs)).trans ho⟩
    have hKO : Kc (fun k => B0 ≤ k ∧ k ≠ w1.heap.size + 2) Wd (wx.setCell ⟨w.heap.size, 0, none⟩ v') := ⟨hb'.size, fun k cs t fr hX e => (hb'.block k (Array.getElem?_eq_some_iff.1 e).1 (fun h => hX (by
      rcases h with h | ⟨h, _⟩
      · omega
      · omega))).trans e⟩
    replace hs := hide hs
    replace hs' := hide hs'
    replace hb' := hide hb'
    replace hr := hide hr
    replace e6 := hide e6
    gi_wp2_with (first | ((with_reducible refine atI_load 54 ?_); refine wlI_load 54 (round_fn l) rfl (ld60 c6) ?_) | ((with_reducible refine atI_push ?_); refine wlI_push (round_fn l) hrun e6' hone rfl (fun _ => rfl) (fun _ => rfl) (fun _ _ => rfl) (fun _ _ => rfl) ?_; intro u0))
    exact ⟨hKF, hKO, hs'.out⟩
  case done =>
    rintro D xs Wd hD hS hI hK
    obtain ⟨v, e1, e2⟩ := hI.row
    have c6 := cell_row e1 0 (v := v) rfl
    replace e1 := hide e1
    replace e2 := hide e2
    replace hI := hide hI
    replace hK := hide hK
    replace hS := hide hS
    gi_wp2_with (first | ((with_reducible refine atI_load 54 ?_); refine wlI_load 54 wide_fn rfl (ld60 c6) ?_))
    have B77 := grownBy_putObj' Wd D (.deferred none)
    refine ⟨by simp, .inl ⟨_, _, rfl, run_takeDeferred hK.out, ?_⟩⟩
    refine ⟨_, results_tmp rfl _ _ _, v, xs, rfl, hS.out, ?_, ?_⟩
    · have h1 : Wd.ownsRow w.heap.size 3 1 v xs.length (cellsI xs) := by
        refine ⟨e2.out.1, ?_⟩
        rcases e2.out.2 with h | ⟨g, cap, cur, q0, q1, q2⟩
        · exact .inl h
        · exact .inr ⟨g, cap, cur, q0, by omega, q2⟩
      exact owns_kept h1 (fun k cur _ e => (B77.block k (Array.getElem?_eq_some_iff.1 e).1 (fun h => by cases h; rw [hK.out] at e; cases e)).trans e)
    · exact hI.out.bel.grown B77 hI.out.bel.size (fun k e => by cases e; omega)
  case stop => rintro D cc pr Wd hD hS h; exact h.elim
set_option maxHeartbeats 400000 in
theorem collect_any (gf : Nat) (lb : Array Value) (B0 N : Nat) (hN : N ≤ 100000) (S : List Nat → Prop) (w : World) (hB0 : B0 ≤ w.heap.size) (eg : ∀ args w, (callFunc gf args).run Tryz.prog w = .ok (.enter gf args) w)
    (hseq : SeqP Fence.wide (8 - 1) Tryz.prog gf lb encO (fun B => Kc (fun k => B0 ≤ k ∧ k ≠ B)) S (fun _ => True) N w) :
    Calls Tryz.prog 52 #[.func (.func gf) #[] lb] w fun e w' => ∃ v xs, e = .returned v ∧ S xs ∧ w'.ownsRow w.heap.size 3 1 v xs.length (cellsI xs) ∧ Below w.heap.size w w' := by
  have H := hide (callsIn_wide.1 (appseq_in 8 (by omega) gf lb B0 N hN S w hB0 eg hseq))
  clear hseq
  go_enter Tryz.func52, Tryz.ntmps52
  go_wp2_with fail
  refine H.out.mono ?_
  rintro e w1 ⟨v, xs, rfl, hS, ho, B⟩
  replace ho := hide ho
  replace hS := hide hS
  go_wp2_with fail
  go_ret
  exact ⟨v, xs, rfl, hS.out, ho.out, B⟩
end Go.Proofs.YtkfdikpnnkbgaaaGreatDoor
