/-
  A crash of a file: the picks (next), filled, bytes.Equal, mix.
-/
import Derived.Test.YtgbijkdfhkkieaaL
namespace Go.Proofs.Ytgbijkdfhkkieaa
open Go.RowKit Go.Maps Go.Lib
set_option linter.unusedVariables false
set_option linter.unusedSimpArgs false

/-- A slice of numbers. -/
structure Hi (w : World) (a : Option Addr) (len cap : Nat) (l : List Int) : Prop where
  hlen : l.length = len
  le : len ≤ cap
  capb : cap ≤ maxLen
  nil : a = none → cap = 0
  cells : 0 < len → ∃ b off, a = some ⟨b, off, none⟩ ∧ b < w.heap.size ∧ ∀ i, i < len → w.cell? ⟨b, off + i, none⟩ = some (.int .i64 (l.getD i 0))
  ints : ∀ x ∈ l, -9223372036854775808 ≤ x ∧ x ≤ 9223372036854775807
/-- The picks that are left, in a box. -/
def Pl (w : World) (q : Nat) (ps : List Int) (T : Nat → Prop) : Prop := ∃ a n c, Bx w q 68 #[.slice a n c] ∧ Hi w a n c ps ∧ ¬ T q ∧ (0 < n → ∀ k, (Value.slice a n c).ownBlock = some k → ¬ T k)
theorem Hi.but {w w' : World} {a : Option Addr} {n c : Nat} {ps : List Int} (h : Hi w a n c ps) {S : Nat → Prop} (hb : But S w w') (hS : 0 < n → ∀ k, (Value.slice a n c).ownBlock = some k → ¬ S k) : Hi w' a n c ps := by
  refine ⟨h.hlen, h.le, h.capb, h.nil, fun hp => ?_, h.ints⟩
  obtain ⟨b, off, e1, e2, e3⟩ := h.cells hp
  refine ⟨b, off, e1, Nat.lt_of_lt_of_le e2 hb.size, fun i hi => ?_⟩
  have hk : w'.heap[b]? = w.heap[b]? := hb.block b e2 (hS hp b (by rw [e1]; rfl))
  rw [← e3 i hi]
  unfold World.cell?
  simp only [hk]
theorem Pl.but {w w' : World} {q : Nat} {ps : List Int} {T T' : Nat → Prop} (h : Pl w q ps T) (hb : But T w w') (hT : ∀ x, T' x → T x ∨ w.heap.size ≤ x) : Pl w' q ps T' := by
  obtain ⟨a, n, c, X, H, n1, n2⟩ := h
  refine ⟨a, n, c, X.but hb n1, H.but hb n2, fun ht => ?_, fun hp k hk ht => ?_⟩
  · rcases hT q ht with h | h
    · exact n1 h
    · have := X.lt; omega
  · rcases hT k ht with h | h
    · exact n2 hp k hk h
    · obtain ⟨b, off, e1, e2, _⟩ := H.cells hp
      rw [e1] at hk
      have : b = k := by simpa [Value.ownBlock] using hk
      omega
/-- The next pick, and those behind it. -/
def nx : List Int → Int × List Int
  | [] => (0, [])
  | x :: r => (max x 0, r)
theorem Hi.no {w : World} {a : Option Addr} {n c : Nat} {ps : List Int} (h : Hi w a n c ps) (hp : 0 < n) {q : Nat} {t : TypeId} {a' : Option Addr} {n' c' : Nat} (hx : Bx w q t #[.slice a' n' c']) : (Value.slice a n c).ownBlock ≠ some q := by
  obtain ⟨b, off, e1, e2, e3⟩ := h.cells hp
  rw [e1]
  intro e
  have hb : b = q := by simpa [Value.ownBlock] using e
  subst hb
  have := e3 0 hp
  rw [hx.cell] at this
  rcases off with _ | off
  · simp at this
  · simp at this
set_option maxHeartbeats 2000000 in
set_option maxRecDepth 100000 in
theorem next_any {w : World} {q : Nat} {ps : List Int} {T : Nat → Prop} (h : Pl w q ps T) : Calls Try.prog 65 #[ptr q] w fun e w' => e = .returned (.int .i64 (nx ps).1) ∧ Pl w' q (nx ps).2 T ∧ But (fun x => x = q) w w' := by
  obtain ⟨a, n, c, X, H, n1, n2⟩ := h
  have c0 := X.cell 0
  have f0 := X.fz 0
  simp only [List.getElem?_toArray, List.getElem?_cons_zero] at c0
  cases ps with
  | nil =>
    have hn : n = 0 := by have := H.hlen; simpa using this.symm
    subst hn
    have K : Hid (Pl w q [] T) := ⟨a, 0, c, X, H, n1, n2⟩
    clear H X n1 n2
    go_enter Try.func65, Try.ntmps65
    go_wp2
    go_ret
    exact ⟨rfl, K.out, But.refl _ _⟩
  | cons x r =>
    have hn : r.length + 1 = n := by have := H.hlen; simpa using this
    have hp : 0 < n := by omega
    have hcn := H.le
    have hcb := H.capb
    unfold maxLen at hcb
    have hno := H.no hp X
    obtain ⟨b, off, ha, hbl, hcs⟩ := H.cells hp
    subst ha
    have q0 := hcs 0 hp
    simp only [Nat.add_zero, List.getD_cons_zero] at q0
    have hx := H.ints x (by simp)
    have j1 : (0 : Int) < (n : Int) := by omega
    have j2 : (1 : Int) ≤ (n : Int) := by omega
    have j3 : (n : Int) ≤ (c : Int) := by omega
    have j4 : ((n : Int) == 0) = false := beq_eq_false_iff_ne.2 (by omega)
    have hbq : b ≠ q := fun e => hno (by rw [e]; rfl)
    have fin : ∀ a2 : Option Addr, (c ≠ 1 → a2 = some ⟨b, off + 1, none⟩) → (∀ k, (Value.slice a2 (n - 1) (c - 1)).ownBlock = some k → k = b) → a2 ≠ none → Pl (w.setCell ⟨q, 0, none⟩ (.slice a2 (n - 1) (c - 1))) q r T := by
      intro a2 h1 h2 h3
      refine ⟨a2, n - 1, c - 1, X.set1 0 _, ⟨by omega, by omega, by unfold maxLen; omega, fun e => (h3 e).elim, fun hp2 => ?_, fun y hy => H.ints y (by simp [hy])⟩, n1, fun _ k hk => by rw [h2 k hk]; exact n2 hp b rfl⟩
      refine ⟨b, off + 1, h1 (by omega), by simpa [World.setCell] using hbl, fun i hi => ?_⟩
      rw [World.cell?_setCell_far w _ _ _ (fun e => hbq e.symm)]
      have := hcs (i + 1) (by omega)
      rw [show off + 1 + i = off + (i + 1) by omega, this]
      simp
    replace fin := hide fin
    replace hcs := hide hcs
    replace H := hide H
    replace n2 := hide n2
    have bq := hide (but_setCell w q 0)
    by_cases hc1 : c = 1
    · have hn1 : n = 1 := by omega
      subst hc1
      subst hn1
      clear hno
      by_cases hx0 : 0 ≤ x
      · rw [show nx (x :: r) = (x, r) by simp [nx]; omega]
        go_enter Try.func65, Try.ntmps65
        go_wp2
        go_ret
        exact ⟨by first | rfl | (simp; omega), fin.out _ (fun h => (h rfl).elim) (fun k hk => by simpa [Value.ownBlock] using hk.symm) (by simp), bq.out _⟩
      · rw [show nx (x :: r) = (0, r) by simp [nx]; omega]
        go_enter Try.func65, Try.ntmps65
        go_wp2
        go_ret
        exact ⟨by first | rfl | (simp; omega), fin.out _ (fun h => (h rfl).elim) (fun k hk => by simpa [Value.ownBlock] using hk.symm) (by simp), bq.out _⟩
    · clear hno
      by_cases hx0 : 0 ≤ x
      · rw [show nx (x :: r) = (x, r) by simp [nx]; omega]
        go_enter Try.func65, Try.ntmps65
        go_wp2
        go_ret
        exact ⟨by first | rfl | (simp; omega), fin.out _ (fun _ => rfl) (fun k hk => by simpa [Value.ownBlock] using hk.symm) (by simp), bq.out _⟩
      · rw [show nx (x :: r) = (0, r) by simp [nx]; omega]
        go_enter Try.func65, Try.ntmps65
        go_wp2
        go_ret
        exact ⟨by first | rfl | (simp; omega), fin.out _ (fun _ => rfl) (fun k hk => by simpa [Value.ownBlock] using hk.symm) (by simp), bq.out _⟩
end Go.Proofs.Ytgbijkdfhkkieaa
