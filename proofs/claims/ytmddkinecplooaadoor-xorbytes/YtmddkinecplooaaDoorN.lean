/-
  The reference's writer: bits one by one; the mathematics, and what it is in memory.
-/
import Derived.Test.YtmddkinecplooaaDoorM
import Derived.Maps.AppendAt
namespace Go.Proofs.YtmddkinecplooaaDoor
open Go.RowKit
set_option linter.unusedVariables false

/-- The number that bits are, the first one the highest. -/
def numB (L : List Bool) : Nat := L.foldl (fun a b => 2 * a + b.toNat) 0
theorem numB_nil : numB [] = 0 := rfl
theorem numB_from (M : List Bool) : ∀ x, M.foldl (fun a b => 2 * a + b.toNat) x = x * 2 ^ M.length + numB M := by
  induction M with
  | nil => intro x; simp [numB]
  | cons b M ih =>
    intro x
    have h1 := ih (2 * x + b.toNat)
    have h2 := ih (2 * 0 + b.toNat)
    simp only [List.foldl_cons, List.length_cons, numB] at h1 h2 ⊢
    rw [h1, h2, Nat.pow_succ, Nat.add_mul, Nat.mul_zero, Nat.zero_add, Nat.mul_comm 2 x, Nat.mul_assoc, Nat.mul_comm 2 (2 ^ M.length), Nat.add_assoc]
theorem numB_app (L M : List Bool) : numB (L ++ M) = numB L * 2 ^ M.length + numB M := by
  unfold numB
  rw [List.foldl_append]
  exact numB_from M _
theorem numB_cons (b : Bool) (M : List Bool) : numB (b :: M) = b.toNat * 2 ^ M.length + numB M := by
  have := numB_app [b] M
  rw [show numB [b] = b.toNat by simp [numB]] at this
  exact this
theorem numB_snoc (L : List Bool) (b : Bool) : numB (L ++ [b]) = 2 * numB L + b.toNat := by
  rw [numB_app, show numB [b] = b.toNat by simp [numB]]
  simp
  omega
theorem numB_lt (L : List Bool) : numB L < 2 ^ L.length := by
  induction L with
  | nil => simp [numB]
  | cons b M ih =>
    rw [numB_cons, List.length_cons, Nat.pow_succ]
    cases b <;> simp <;> omega
theorem numB_take (L : List Bool) (i : Nat) (h : i < L.length) : numB (L.take (i + 1)) = 2 * numB (L.take i) + (L.getD i false).toNat := by
  rw [List.take_add_one, List.getElem?_eq_getElem h, Option.toList_some, numB_snoc]
  simp [List.getD, List.getElem?_eq_getElem h]
/-- One bit more of the number, from behind. -/
theorem numB_set {M : List Bool} {x n j : Nat} (hM : M.length = n) (hj : j < n) (h : numB (M.drop (j + 1)) = x % 2 ^ (n - (j + 1))) :
    numB ((M.set j (decide (x / 2 ^ (n - (j + 1)) % 2 = 1))).drop j) = x % 2 ^ (n - j) := by
  have e1 : (M.set j (decide (x / 2 ^ (n - (j + 1)) % 2 = 1))).drop j = decide (x / 2 ^ (n - (j + 1)) % 2 = 1) :: M.drop (j + 1) := by
    rw [List.drop_eq_getElem_cons (by simp; omega)]
    simp [List.drop_set_of_lt]
  rw [e1, numB_cons, h, List.length_drop, hM, show n - j = 1 + (n - (j + 1)) by omega, modsplit]
  congr 2
  have := Nat.mod_two_eq_zero_or_one (x / 2 ^ (n - (j + 1)))
  rcases this with h1 | h1 <;> simp [h1]

/-- The reference's writer, whose bits lie in v. -/
structure RW (w : World) (base p : Nat) (v : Value) (L : List Bool) : Prop where
  heap : w.heap[p]? = some (.cells #[v] 30 (0, 0))
  ge : base ≤ p
  own : w.ownsRow base 4 1 v L.length (L.map Value.bool)
  ne : v.ownBlock ≠ some p
section
variable {w w' : World} {base p : Nat} {v : Value} {L : List Bool}
theorem RW.lt (h : RW w base p v L) : p < w.heap.size := (Array.getElem?_eq_some_iff.1 h.heap).1
theorem RW.c0 (h : RW w base p v L) : w.cell? ⟨p, 0, none⟩ = some v := by rw [cell_of_row w p 0 _ 30 (0, 0) h.heap]; rfl
theorem RW.fz (h : RW w base p v L) (i : Nat) : w.frozen? ⟨p, i, none⟩ = false := frozen_of_row w p i _ 30 h.heap
theorem RW.slice (h : RW w base p v L) : ∃ a c, v = .slice a L.length c := by
  rcases h.own.2 with ⟨rfl, h1⟩ | ⟨g, cap, cur, rfl, _⟩
  · exact ⟨none, 0, by rw [h1]⟩
  · exact ⟨_, _, rfl⟩
theorem RW.fplt (h : RW w base p v L) : ∀ k, fp p v k → base ≤ k ∧ k < w.heap.size := fun k hk => by
  rcases hk with rfl | hk
  · exact ⟨h.ge, h.lt⟩
  · exact h.own.lt k hk
theorem RW.kept (h : RW w base p v L) {S : Nat → Prop} (hb : But S w w') (hS : ∀ k, S k → ¬ fp p v k) : RW w' base p v L :=
  ⟨(hb.block p h.lt (fun s => hS p s (.inl rfl))).trans h.heap, h.ge, owns_of_block h.own (fun k hk => hb.block k (h.own.lt k hk).2 (fun s => hS k s (.inr hk))), h.ne⟩
theorem RW.below (h : RW w base p v L) {B : Nat} (hb : Below B w w') (hB : w.heap.size ≤ B) : RW w' base p v L :=
  ⟨(hb.block p (by have := h.lt; omega)).trans h.heap, h.ge, owns_of_block h.own (fun k hk => hb.block k (by have := (h.own.lt k hk).2; omega)), h.ne⟩
theorem RW.drewN (h : RW w base p v L) (k : Nat) : RW (w.drewN k) base p v L := ⟨h.heap, h.ge, h.own, h.ne⟩
theorem RW.drew (h : RW w base p v L) : RW w.drew base p v L := ⟨h.heap, h.ge, h.own, h.ne⟩
theorem RW.bel (h : RW w base p v L) (hb : But (fp p v) w w') : Below base w w' :=
  hb.below (by have := h.lt; have := h.ge; omega) (fun k hk => (h.fplt k hk).1)
end
theorem Did.rw {w w' : World} {base p p' : Nat} {v v1 v' : Value} {L : List Bool} {base' : Nat} (h : Did w w' base p v v1) (d : Dis p v p' v') (o : RW w base' p' v' L) : RW w' base' p' v' L ∧ Dis p v1 p' v' :=
  ⟨o.kept h.but d, fun k h1 h2 => by
    rcases h1 with rfl | h1
    · exact d k (.inl rfl) h2
    · exact d k (.inr (h.own k (o.fplt k h2).2 h1)) h2⟩

theorem info4 : (Tryd.prog.info? 4).map (fun i => (i.zero, i.size, i.bytes)) = some (some (.bool false), 1, 1) := by kernel_rfl

theorem wpList_makeB {w : World} {ops : Array Oper} {rest : List Oper} {o : Oper} {a : Act} {Q : Exit → Act → World → Prop}
    (hg : o.guard = none) (lo co : Operand) (hop : o.op = Op.makeSlice 28 lo co) (n : Nat) (hl : a.eval lo = .int .i64 (n : Int)) (hc : a.eval co = .int .i64 (n : Int)) (hb : n ≤ 4398046511104)
    (h : ∀ w', w'.ownsRow w.heap.size 4 1 (.slice (some ⟨w.heap.size, 0, none⟩) n n) n ((List.replicate n false).map Value.bool) → Below w.heap.size w w' → w'.heap.size = w.heap.size + 1 →
      wpList Tryd.prog ops Q rest (a.put o.dst (.slice (some ⟨w.heap.size, 0, none⟩) n n)) w') :
    wpList Tryd.prog ops Q (o :: rest) a w := by
  obtain ⟨i0, hi, hz0, hz1, hz2⟩ := info_parts info4
  refine wpList_plain hg fun K hK' => ?_
  have hrun := run_make (P := Tryd.prog) w 28 4 i0 (.bool false) Tryd.underlying28 hi hz0 .i64 .i64 n n (by omega) (by omega) (by rw [hz2]; omega) (by omega)
  simp only [Int.toNat_natCast, hz1, Nat.mul_one] at hrun
  unfold Oper.wp
  simp [execOp, hop, hl, hc, hrun, Result.andThen]
  refine hK' _ _ (h _ ⟨by simp, .inr ⟨w.heap.size, n, _, rfl, Nat.le_refl _, heap_alloc_new w _, Nat.le_refl _, by unfold maxLen; omega, ?_, ?_⟩⟩ ((Below.refl _ _).alloc (Nat.le_refl _) _) (by simp))
  · rw [size_madeCells]; omega
  · rw [show (Value.bool false).cells = #[.bool false] from rfl, toList_madeCells_one]
    simp
end Go.Proofs.YtmddkinecplooaaDoor
