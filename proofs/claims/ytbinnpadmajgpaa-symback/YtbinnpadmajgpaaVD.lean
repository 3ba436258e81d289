/-
  A law for 'append' of bytes, whatever lies behind; the walk of base.Bytes.
-/
import Derived.Test.YtbinnpadmajgpaaVC
namespace Go.Proofs.Ytbinnpadmajgpaa.V
open Go.RowKit
set_option linter.unusedVariables false

theorem wpList_app {w : World} {ops : Array Oper} {rest : List Oper} {o : Oper} {a : Act} {Q : Exit → Act → World → Prop} (hgd : o.guard = none) (s x : Operand)
    (ho : o.op = .call { callee := .builtin .append, args := #[s, x], argTypes := #[23, 23] })
    (base : Nat) (v : Value) (n : Nat) (l : List Int) (hs : a.eval s = v) (hown : w.ownsRow base 5 1 v n (l.map (Value.int .u8)))
    (ax : Option Addr) (len cap : Nat) (lx : List Int) (hx : a.eval x = .slice ax len cap) (hh : Has w ax len cap lx)
    (hb : n + len ≤ 4398046511104) (hbase : base ≤ w.heap.size)
    (h : ∀ v' w', w'.ownsRow base 5 1 v' (n + len) ((l ++ lx).map (Value.int .u8)) → w.grownBy w' v.ownBlock → wpList Try.prog ops Q rest (a.put o.dst v') w') :
    wpList Try.prog ops Q (o :: rest) a w := by
  obtain ⟨i0, hi, hz0, hz1, hz2⟩ := info_parts info5
  cases ax with
  | none =>
    have hc := hh.nil rfl
    have hl := hh.le
    subst hc
    obtain rfl : len = 0 := by omega
    obtain rfl : lx = [] := List.eq_nil_of_length_eq_zero hh.hlen
    refine wpList_append_own_none hgd s x 23 ho base 5 i0 1 Try.underlying23 hi v n (l.map (Value.int .u8)) hs hown hx ?_
    exact h v w (by simpa using hown) (World.grownBy.refl w _)
  | some ad =>
    refine wpList_append_own w hgd s x 23 ho base 5 i0 (.int .u8 0) 1 1 Try.underlying23 hi hz0 hz1 hz2 rfl (by decide) v n (l.map (Value.int .u8)) hs hown ad len cap (lx.map (Value.int .u8)) hx
      (by simp [hh.hlen]) ?_ (ints_oneCell _ _) (by unfold maxLen; omega) (by omega) hbase ?_
    · intro j u hj
      by_cases hp : 0 < len
      · obtain ⟨b, off, e1, e2, e3⟩ := cells_of_has hh hp
        cases e1
        exact e3 j u hj
      · obtain rfl : lx = [] := List.eq_nil_of_length_eq_zero (by have := hh.hlen; omega)
        simp at hj
    · intro v' w' h1 h2 _
      exact h v' w' (by simpa using h1) h2

theorem has_one (w : World) (b : Int) (hb : 0 ≤ b ∧ b ≤ 255) : Has (w.alloc (.cells #[.int .u8 b] 5)) (some ⟨w.heap.size, 0, none⟩) 1 1 [b] := by
  refine ⟨rfl, Nat.le_refl _, by unfold maxLen; omega, (fun h => by cases h), fun _ => ⟨w.heap.size, 0, rfl, by simp, fun i hi => ?_⟩, fun x hx => ?_⟩
  · obtain rfl : i = 0 := by omega
    simp
  · simp at hx; omega

theorem has_lit (w : World) (xs : List Int) (hb : ∀ x ∈ xs, 0 ≤ x ∧ x ≤ 255) (hm : xs.length ≤ maxLen) : Has (w.alloc (.cells (xs.map (Value.int .u8)).toArray 5)) (some ⟨w.heap.size, 0, none⟩) xs.length xs.length xs := by
  refine ⟨rfl, Nat.le_refl _, hm, (fun h => by cases h), fun _ => ⟨w.heap.size, 0, rfl, by simp, fun i hi => ?_⟩, hb⟩
  simp [List.getElem?_eq_getElem hi]

theorem owns_empty (w : World) : (w.alloc (.cells #[] 5)).ownsRow w.heap.size 5 1 (.slice (some ⟨w.heap.size, 0, none⟩) 0 0) 0 (([] : List Int).map (Value.int .u8)) := by
  simpa using World.ownsRow_made (e := 5) (size := 1) w #[] 0 (Nat.le_refl _) (Nat.zero_le _) (by simp)

/-- The end of a walk that hands out a row of its own. -/
theorem ret_of_owns {w w' : World} {v : Value} {n : Nat} {l : List Int} (h : w'.ownsRow w.heap.size 5 1 v n (l.map (Value.int .u8))) (hl : ∀ x ∈ l, 0 ≤ x ∧ x ≤ 255) (hb : Below w.heap.size w w') : Ret w l (.returned v) w' := by
  obtain ⟨a, cap, rfl, hh⟩ := has_of_owns h hl
  exact ⟨a, n, cap, rfl, hh, hb, h⟩

theorem wpList_make2 {w : World} {ops : Array Oper} {rest : List Oper} {o : Oper} {a : Act} {Q : Exit → Act → World → Prop}
    (hg : o.guard = none) (lo co : Operand) (hop : o.op = Op.makeSlice 23 lo co) (n c : Nat) (L C : Int) (hl : a.eval lo = .int .i64 L) (hc : a.eval co = .int .i64 C) (hL : L = (n : Int)) (hC : C = (c : Int))
    (hnc : n ≤ c) (hb : c ≤ 4398046511104)
    (h : ∀ w', w'.ownsRow w.heap.size 5 1 (.slice (some ⟨w.heap.size, 0, none⟩) n c) n ((List.replicate n (0 : Int)).map (Value.int .u8)) → Below w.heap.size w w' →
      wpList Try.prog ops Q rest (a.put o.dst (.slice (some ⟨w.heap.size, 0, none⟩) n c)) w') :
    wpList Try.prog ops Q (o :: rest) a w := by
  obtain ⟨i0, hi, hz0, hz1, hz2⟩ := info_parts info5
  refine wpList_plain hg fun K hK' => ?_
  subst hL hC
  have hrun := run_make (P := Try.prog) w 23 5 i0 (.int .u8 0) Try.underlying23 hi hz0 .i64 .i64 n c (by omega) (by omega) (by rw [hz2]; omega) (by omega)
  simp only [Int.toNat_natCast, hz1, Nat.mul_one] at hrun
  unfold Oper.wp
  simp [execOp, hop, hl, hc, hrun, Result.andThen]
  refine hK' _ _ (h _ ⟨by simp, .inr ⟨w.heap.size, c, _, rfl, Nat.le_refl _, heap_alloc_new w _, hnc, by unfold maxLen; omega, ?_, ?_⟩⟩ ((Below.refl _ _).alloc (Nat.le_refl _) _))
  · rw [size_madeCells]; omega
  · rw [show (Value.int IntKind.u8 0).cells = #[.int .u8 0] from rfl, toList_madeCells_one]
    simp
    omega

theorem wpList_copy2 {w : World} {ops : Array Oper} {rest : List Oper} {o : Oper} {a : Act} {Q : Exit → Act → World → Prop} (hgd : o.guard = none) (d s : Operand)
    (ho : o.op = .call { callee := .builtin .copy, args := #[d, s], argTypes := #[23, 23] })
    (base g n c : Nat) (xs : List Int) (hd : a.eval d = .slice (some ⟨g, 0, none⟩) n c) (hown : w.ownsRow base 5 1 (.slice (some ⟨g, 0, none⟩) n c) n (xs.map (Value.int .u8)))
    (sa : Option Addr) (m scap : Nat) (l : List Int) (hs : a.eval s = .slice sa m scap) (hm : m = n) (hh : Has w sa n scap l)
    (h : ∀ w', w'.ownsRow base 5 1 (.slice (some ⟨g, 0, none⟩) n c) n (l.map (Value.int .u8)) → w.grownBy w' (some g) → wpList Try.prog ops Q rest (a.put o.dst (goInt n)) w') :
    wpList Try.prog ops Q (o :: rest) a w := by
  subst hm
  have hsz : (Try.prog.info? 5).map (·.size) = some 1 := by
    obtain ⟨i0, hi, hz0, hz1, hz2⟩ := info_parts info5
    simp [hi, hz1]
  by_cases h0 : m = 0
  · subst h0
    obtain rfl : l = [] := List.eq_nil_of_length_eq_zero hh.hlen
    obtain rfl : xs = [] := List.eq_nil_of_length_eq_zero (by simpa using hown.1)
    exact wpList_copy_nothing hgd d s 23 23 ho 5 Try.underlying23 hsz _ _ 0 c 0 scap hd hs (by simp) (h w hown (World.grownBy.refl w _))
  · obtain ⟨b, off, rfl, e2, e3⟩ := cells_of_has hh (by omega)
    rcases hown.2 with ⟨h1, h2⟩ | ⟨g', cap, cur, hv, hbg, hg, hnc, hcm, hcs, htake⟩
    · omega
    · cases hv
      have hl : (l.map (Value.int .u8)).length = m := by simpa using hh.hlen
      have key := wpList_copy_own (P := Try.prog) (Q := Q) (ops := ops) (rest := rest) hgd d s 23 23 ho 5 Try.underlying23 hsz g 0 m c ⟨b, off, none⟩ m scap hd hs cur 5 hg (l.map (Value.int .u8)) (by rw [hl]; simp) e3 (by rw [hl]; omega) (ints_oneCell _ _)
      rw [hl] at key
      refine key (h _ ⟨by rw [hl]; omega, .inr ⟨g, c, _, rfl, hbg, setRow_heap w g cur _ 5 _ hg, hnc, hcm, ?_, ?_⟩⟩ ⟨rfl, rfl, rfl, by simp, fun k _ hk => setRow_other w g k _ (fun e => hk (by simp [e]))⟩)
      · simp [hl]; omega
      · simp [hl]
end Go.Proofs.Ytbinnpadmajgpaa.V
