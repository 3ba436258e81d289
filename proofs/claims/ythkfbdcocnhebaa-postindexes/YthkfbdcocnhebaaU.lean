/-
  The reference's index in memory: rows of entries of one's own; set.
-/
import Derived.Test.YthkfbdcocnhebaaT
namespace Go.Proofs.Ythkfbdcocnhebaa
open Go.RowKit
set_option linter.unusedVariables false
set_option linter.unusedSimpArgs false

/-- w' is w, but for new blocks and those in S. -/
structure But (S : Nat → Prop) (w w' : World) : Prop where
  os : w'.os = w.os
  tape : w'.tape = w.tape
  output : w'.output = w.output
  size : w.heap.size ≤ w'.heap.size
  block : ∀ k, k < w.heap.size → ¬ S k → w'.heap[k]? = w.heap[k]?
theorem But.refl (S : Nat → Prop) (w : World) : But S w w := ⟨rfl, rfl, rfl, Nat.le_refl _, fun _ _ _ => rfl⟩
theorem But.trans {S T : Nat → Prop} {a b c : World} (h : But S a b) (k : But T b c) (hT : ∀ i, i < a.heap.size → T i → S i) : But S a c :=
  ⟨k.os.trans h.os, k.tape.trans h.tape, k.output.trans h.output, Nat.le_trans h.size k.size, fun i hi hn => (k.block i (Nat.lt_of_lt_of_le hi h.size) (fun t => hn (hT i hi t))).trans (h.block i hi hn)⟩
theorem But.setCell {S : Nat → Prop} {a w : World} (h : But S a w) {p : Addr} (hp : p.block < a.heap.size → S p.block) (u : Value) : But S a (w.setCell p u) :=
  h.trans (T := fun k => k = p.block) ⟨rfl, rfl, rfl, by simp [World.setCell], fun k hk hn => Below.heap_setCell w p u k hn⟩ (fun i hi e => by subst e; exact hp hi)
theorem But.of_below {w w' : World} (h : Below w.heap.size w w') (S : Nat → Prop) : But S w w' := ⟨h.os, h.tape, h.output, h.size, fun k hk hn => h.block k hk⟩

/-- An entry, and its list's value. -/
abbrev EV := Ent × Value
def flE : List EV → List Value
  | [] => []
  | x :: xs => .string x.1.1 :: x.2 :: flE xs
theorem flE_len (X : List EV) : (flE X).length = X.length * 2 := by
  induction X with
  | nil => rfl
  | cons p L ih => simp only [flE, List.length_cons, ih]; omega
theorem flE_app (L M : List EV) : flE (L ++ M) = flE L ++ flE M := by
  induction L with
  | nil => rfl
  | cons p L ih => simp [flE, ih]
theorem flE_get (L : List EV) : ∀ i (h : i < L.length), (flE L)[i * 2]? = some (.string L[i].1.1) ∧ (flE L)[i * 2 + 1]? = some L[i].2 := by
  induction L with
  | nil => intro i hi; simp at hi
  | cons p L ih =>
    intro i hi
    cases i with
    | zero => simp [flE]
    | succ i =>
      have h := ih i (by simpa using hi)
      rw [show (i + 1) * 2 = i * 2 + 1 + 1 by omega, show i * 2 + 1 + 1 + 1 = (i * 2 + 1) + 1 + 1 by omega]
      simpa [flE] using h
/-- The lists lie in w. -/
def Xs (No : Nat → Prop) (w : World) (X : List EV) : Prop := ∀ x ∈ X, ∃ a m k, x.2 = .slice a m k ∧ HasU w a m k x.1.2 ∧ ∀ q, 0 < m → (Value.slice a m k).ownBlock = some q → ¬ No q
theorem xs_nil (No : Nat → Prop) (w : World) : Xs No w [] := fun x hx => by simp at hx
theorem Xs.push {No : Nat → Prop} {w : World} {X : List EV} (h : Xs No w X) {e : Ent} {a : Option Addr} {m k : Nat} (hz : HasU w a m k e.2 ∧ ∀ q, 0 < m → (Value.slice a m k).ownBlock = some q → ¬ No q) : Xs No w (X ++ [(e, .slice a m k)]) := fun x hx => by
  rcases List.mem_append.1 hx with hx | hx
  · exact h x hx
  · rw [List.mem_singleton.1 hx]; exact ⟨a, m, k, rfl, hz⟩
theorem Xs.one {No : Nat → Prop} {w : World} {X : List EV} (h : Xs No w X) : ∀ u ∈ flE X, u.oneCell' = true := by
  induction X with
  | nil => intro u hu; cases hu
  | cons p L ih =>
    intro u hu
    simp only [flE, List.mem_cons] at hu
    rcases hu with rfl | rfl | hu
    · rfl
    · obtain ⟨a, m, k, e, _⟩ := h p (by simp)
      rw [e]; rfl
    · exact ih (fun x hx => h x (by simp [hx])) u hu
theorem info57 : (Try.prog.info? 57).map (fun i => (i.zero, i.size, i.bytes)) = some (some (.agg #[.string ByteArray.empty, .slice none 0 0]), 2, 40) := by kernel_rfl
theorem ownsE_empty (w : World) : (w.alloc (.cells #[] 57)).ownsRow w.heap.size 57 2 (.slice (some ⟨w.heap.size, 0, none⟩) 0 0) 0 (flE []) := by
  simpa [flE] using World.ownsRow_made (e := 57) (size := 2) w #[] 0 (Nat.le_refl _) (Nat.zero_le _) (by simp)
/-- append of one entry to a row of one's own. -/
theorem wpList_pushE {w w0 : World} {ops : Array Oper} {rest : List Oper} {o : Oper} {a : Act} {Q : Exit → Act → World → Prop} (hgd : o.guard = none) (s x : Operand)
    (ho : o.op = .call { callee := .builtin .append, args := #[s, x], argTypes := #[48, 48] }) (base : Nat) (v : Value) (k : Nat) (X : List EV) (hs : a.eval s = v) (hown : w.ownsRow base 57 2 v k (flE X))
    (ax : Nat) (e : Ent) (z : Value) (h1 : z.oneCell' = true) (hx : a.eval x = .slice (some ⟨ax, 0, none⟩) 1 1) (hc : w.cell? ⟨ax, 0, none⟩ = some (.string e.1)) (hc2 : w.cell? ⟨ax, 1, none⟩ = some z) (hb : k + 1 ≤ 1000000) (hbase : base ≤ w.heap.size)
    (h : ∀ g cap w', w'.ownsRow base 57 2 (.slice (some ⟨g, 0, none⟩) (k + 1) cap) (k + 1) (flE (X ++ [(e, z)])) → w.grownBy w' v.ownBlock → wpList Try.prog ops Q rest (a.put o.dst (.slice (some ⟨g, 0, none⟩) (k + 1) cap)) w') :
    wpList Try.prog ops Q (o :: rest) a w := by
  obtain ⟨i0, hi, hz0, hz1, hz2⟩ := info_parts info57
  refine wpList_append_lies w hgd s x 48 ho base 57 i0 (.agg #[.string ByteArray.empty, .slice none 0 0]) 2 40 Try.underlying48 hi hz0 hz1 hz2 rfl (by decide) v k (flE X) hs hown ⟨ax, 0, none⟩ 1 1 (flE [(e, z)]) hx
    (by rfl) ?_ ?_ (by omega) (by unfold maxLen; omega) (by omega) hbase _ rfl ?_
  · intro j u hj
    rcases j with _ | _ | j
    · simp [flE] at hj; subst hj; rw [add_plain]; exact hc
    · simp [flE] at hj; subst hj; rw [add_plain]; exact hc2
    · simp [flE] at hj
  · intro u hu
    simp [flE] at hu
    rcases hu with rfl | rfl
    · rfl
    · exact h1
  · intro g cap w' h1 h2 h3 _
    exact h g cap w' (by rw [flE_app]; exact h1) h2
theorem ownsE_len {w : World} {base : Nat} {v : Value} {n : Nat} {X : List EV} (h : w.ownsRow base 57 2 v n (flE X)) : X.length = n := by
  have := h.1
  rw [flE_len] at this; omega
/-- A row of one's own has its entries, where the lists lie. -/
theorem hasE_of_owns {No : Nat → Prop} {w w' : World} {base : Nat} {a : Option Addr} {n c : Nat} {X : List EV} (h : w'.ownsRow base 57 2 (.slice a n c) n (flE X)) (hX : Xs No w' X) (hN : ∀ q, base ≤ q → ¬ No q) : HasE No w' a n c (X.map Prod.fst) := by
  have hl := ownsE_len h
  rcases h.2 with ⟨e, h0⟩ | ⟨g, cap, cur, e, hbg, hg, hnc, hcm, hcs, htake⟩
  · cases e
    exact ⟨by rw [List.length_map]; exact hl, Nat.le_refl _, Nat.zero_le _, fun i hi => by omega⟩
  · cases e
    refine ⟨by rw [List.length_map]; exact hl, hnc, hcm, fun i hi => ?_⟩
    have hix : i < X.length := by omega
    obtain ⟨f1, f2⟩ := flE_get X i hix
    obtain ⟨x, m, k, e1, e2, e3⟩ := hX X[i] (List.getElem_mem _)
    have g1 := h.cells (g := g) rfl (i * 2) _ f1
    have g2 := h.cells (g := g) rfl (i * 2 + 1) _ f2
    rw [add_plain] at g1 g2
    rw [e1] at g2
    have ed : (X.map Prod.fst).getD i dE = X[i].1 := by simp [List.getD, hix]
    rw [ed]
    exact ⟨g, 0, x, m, k, rfl, (Array.getElem?_eq_some_iff.1 hg).1, g1, by rw [show 0 + i * 2 + 1 = 0 + (i * 2 + 1) by omega]; exact g2, ⟨e2, e3⟩, hN g hbg⟩
/-- A list stays, when a block of a slice's box turns. -/
theorem HasU.but {w w' : World} {x : Option Addr} {m k g : Nat} {l : List Int} {v : Value} {t : TypeId} (h : HasU w x m k l) (hb : But (fun b => b = g) w w') (hg : w.heap[g]? = some (.cells #[v] t (0, 0))) (hv : ∀ n, v ≠ .int .u64 n) : HasU w' x m k l := by
  refine ⟨h.hlen, h.le, h.capb, h.nil, fun hp => ?_, h.range⟩
  obtain ⟨b, off, e1, e2, e3⟩ := h.cells hp
  have hne : ¬ b = g := fun e => by
    subst e
    have := e3 0 hp
    rw [cell_of_row w b _ _ _ _ hg] at this
    rcases Nat.eq_zero_or_pos off with h0 | h0
    · subst h0
      simp at this
      exact hv _ this
    · rw [Array.getElem?_eq_none (by simp; omega)] at this
      cases this
  exact ⟨b, off, e1, Nat.lt_of_lt_of_le e2 hb.size, fun i hi => (World.cell?_of_block (hb.block b e2 hne)).trans (e3 i hi)⟩
theorem Xs.but {No : Nat → Prop} {w w' : World} {X : List EV} {g : Nat} {v : Value} {t : TypeId} (h : Xs No w X) (hb : But (fun b => b = g) w w') (hg : w.heap[g]? = some (.cells #[v] t (0, 0))) (hv : ∀ n, v ≠ .int .u64 n) : Xs No w' X := fun x hx => by
  obtain ⟨a, m, k, e1, e2, e3⟩ := h x hx
  exact ⟨a, m, k, e1, e2.but hb hg hv, e3⟩
theorem kl_less {a b : Str} (h : kl a b) : Op.bytesLess a.toList b.toList = true := by rw [less_lt]; exact decide_eq_true h
theorem kl_nless {a b : Str} (h : ¬ kl a b) : Op.bytesLess a.toList b.toList = false := by rw [less_lt]; exact decide_eq_false h
theorem ups_before {E : List Ent} (h : Ups E) {i : Nat} (hi : i < E.length) : ∀ e ∈ E.take i, kl e.1 (E.getD i dE).1 := fun e he => by
  have hs : E.take (i + 1) = E.take i ++ [E.getD i dE] := by
    rw [List.take_add_one, show E.getD i dE = E[i] by simp [List.getD, List.getElem?_eq_getElem hi], List.getElem?_eq_getElem hi]; rfl
  have hu : Ups (E.take (i + 1)) := h.sublist (List.take_sublist _ _)
  rw [hs] at hu
  exact (List.pairwise_append.1 hu).2.2 e he _ (by simp)
theorem take_succE {E : List Ent} {i : Nat} (hi : i < E.length) : E.take (i + 1) = E.take i ++ [E.getD i dE] := by
  rw [List.take_add_one, show E.getD i dE = E[i] by simp [List.getD, List.getElem?_eq_getElem hi], List.getElem?_eq_getElem hi]; rfl
theorem ev_len (X : List EV) (z : EV) : (X ++ [z]).length = X.length + 1 := by simp
end Go.Proofs.Ythkfbdcocnhebaa
