/-
  The walk of Compare.
-/
import Derived.Test.YtlmpndmceiihaaaD
import Derived.Laws.ResultCell
namespace Go.Proofs.Ytlmpndmceiihaaa
open Go.RowKit Go.Shelf
set_option linter.unusedVariables false
attribute [local go_sem] Oper.semAt_some

theorem box_own {W W' : World} {B : Nat} {t : TypeId} {cs : Array Value} {row : Option Nat} (h : W.heap[B]? = some (.cells cs t (0, 0))) (hg : W.grownBy W' row) (hr : ∀ r, row = some r → ∃ o : Obj, W.heap[r]? = some o ∧ o.isCells = false) : W'.heap[B]? = some (.cells cs t (0, 0)) := by
  refine (hg.block B (Array.getElem?_eq_some_iff.1 h).1 (fun e => ?_)).trans h
  obtain ⟨o, ho, hc⟩ := hr B e.symm
  rw [h] at ho; cases ho; cases hc
theorem pairs_stops (n : Nat) (hn : 1 ≤ n) (B1 B2 : Nat) (a a' : Option Addr) (len cap len' cap' : Nat) (L M : List Lab) (w1 : World) (hL : HasB w1 a len cap L) (hM : HasB w1 a' len' cap' M)
    (hB1 : w1.cell? ⟨B1, 0, none⟩ = some (.slice a len cap)) (hB2 : w1.cell? ⟨B2, 0, none⟩ = some (.slice a' len' cap')) :
    SeqStopsK Fence.wide n Try.prog 47 #[.pointer (some ⟨B1, 0, none⟩), .pointer (some ⟨B2, 0, none⟩)] pairV (Below w1.heap.size) (fun ys => ys = L.zip M) (fun pre => pre <+: L.zip M) (L.zip M).length w1 :=
  fun l J Jx W hW hA _ hY h0 => pairs1_in n hn l B1 B2 w1.heap.size a a' len cap len' cap' L M w1 hL hM rfl hB1 hB2 J Jx W hA hY hW h0
theorem cell_new_l (W : World) (v : Value) (t : TypeId) : (W.alloc (.cells #[v] t)).cell? ⟨W.heap.size, 0, none⟩ = some v ∧ (W.alloc (.cells #[v] t)).frozen? ⟨W.heap.size, 0, none⟩ = false :=
  ⟨(Boxed.new W t v).cell, (Boxed.new W t v).frozen⟩
theorem cell_alloc_l {W : World} {a : Addr} {v : Value} (o : Obj) (h : W.cell? a = some v) : (W.alloc o).cell? a = some v := cell_kept h (World.grownBy_alloc W o none) (fun r e => by cases e)

theorem noDefer (ops : Array Oper) (h : (ops.toList.all fun o => match o.op with | .defer _ => false | _ => true) = true) : ∀ (j : Nat) (o : Oper), ops[j]? = some o → ∀ c, o.op ≠ .defer c := by
  intro j o ho c hc
  have hm : o ∈ ops.toList := by
    have := Array.mem_of_getElem? ho
    simpa using this
  have := List.all_eq_true.1 h o hm
  rw [hc] at this
  cases this
theorem if_wanted {o : Oper} {A E : Prop} (hg : o.guard = none) {ys} (h : A) : if Region.wanted o ys = true then A else E := by rw [if_pos (by simp [Region.wanted, hg])]; exact h
theorem pair_cells {W : World} {g : Nat} {x y : Value} {t : TypeId} (h : W.heap[g]? = some (.cells #[x, y] t (0, 0))) : W.cell? ⟨g, 0, none⟩ = some x ∧ W.cell? ⟨g, 1, none⟩ = some y :=
  ⟨by simp [cell_of_row _ _ _ _ _ _ h], by simp [cell_of_row _ _ _ _ _ _ h]⟩
/-- Sets of which all pairs are the same are told apart by their lengths; else by the first pair that differs. -/
theorem c3_zip {L : List Lab} : ∀ {M : List Lab}, (∀ x ∈ L.zip M, l3 x.1 x.2 = 0) → c3 L M = i3 (L.length : Int) (M.length : Int) := by
  induction L with
  | nil => intro M _; cases M <;> simp [c3, lexL, i3]
  | cons x L ih =>
    intro M h
    cases M with
    | nil => simp [c3, lexL, i3]; omega
    | cons y M =>
      have h1 := h (x, y) (by simp)
      have h2 := ih (M := M) (fun z hz => h z (by simp [hz]))
      simp only [c3, lexL, or2] at h2 ⊢
      rw [if_pos h1, h2]
      unfold i3
      simp
theorem c3_first {L : List Lab} : ∀ {M : List Lab} {pre : List (Lab × Lab)} {x : Lab × Lab}, (pre ++ [x]) <+: L.zip M → (∀ y ∈ pre, l3 y.1 y.2 = 0) → l3 x.1 x.2 ≠ 0 → c3 L M = l3 x.1 x.2 := by
  induction L with
  | nil => intro M pre x h; simp at h
  | cons a L ih =>
    intro M pre x h h0 hx
    cases M with
    | nil => simp at h
    | cons b M =>
      simp only [List.zip_cons_cons] at h
      cases pre with
      | nil =>
        simp only [List.nil_append, List.cons_prefix_cons] at h
        obtain ⟨rfl, _⟩ := h
        simp only [c3, lexL, or2]
        rw [if_neg hx]
      | cons p pre =>
        simp only [List.cons_append, List.cons_prefix_cons] at h
        obtain ⟨rfl, h2⟩ := h
        have h1 := h0 (a, b) (by simp)
        have h3 := ih (M := M) h2 (fun y hy => h0 y (by simp [hy])) hx
        simp only [c3, lexL, or2] at h3 ⊢
        rw [if_pos h1, h3]

end Go.Proofs.Ytlmpndmceiihaaa
