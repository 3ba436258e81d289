/-
  Sets of bytes: union.
-/
import Derived.Test.YtnbhpojcckhlmaaDoorD
namespace Go.Proofs.YtnbhpojcckhlmaaDoor
open Go.RowKit
set_option linter.unusedVariables false
set_option linter.unusedSimpArgs false

section
variable {S : Nat → Prop} {w0 w : World} {L : List Ent} {ops : Array Oper} {rest : List Oper} {a : Act} {Q : Exit → Act → World → Prop} {dst : Option Nat} {x y : Operand} {ty : TypeId} {pos : String} {after : Array Edge}
theorem wl_loadA (t : TypeId) {ad : Addr} {v : Value} (hx : a.eval x = .pointer (some ad)) (hl : (loadVar t ad).run Tryd.prog w = .ok v w)
    (k : wpList Tryd.prog ops Q rest (a.put dst v) w) : wpList Tryd.prog ops Q (⟨dst, .load t x, ty, pos, after, none⟩ :: rest) a w := by
  refine wpList_plain rfl fun K hK => ?_
  unfold Oper.wp execOp
  simp only [hx, Instr.loadAt, Instr.sureAddr, Sem.run_bind, Sem.run_pure, Result.andThen_ok, hl]
  exact hK _ _ k
end
theorem load25c {w : World} {b o : Nat} {s : S4} (h : ∀ q, q < 4 → w.cell? ⟨b, o + q, none⟩ = some (.int .u64 (s.get q))) : (loadVar 25 ⟨b, o, none⟩).run Tryd.prog w = .ok (setV s) w := by
  have h0 := h 0 (by omega)
  have h1 := h 1 (by omega)
  have h2 := h 2 (by omega)
  have h3 := h 3 (by omega)
  have hz : ∀ w, (sizeOf 25).run Tryd.prog w = .ok 4 w := fun w => by kernel_rfl
  have ha : ∀ w, (isAgg 25).run Tryd.prog w = .ok true w := fun w => by kernel_rfl
  simp only [Nat.add_zero] at h0
  simp [loadVar, hz, ha, loadCells, go_sem, h0, h1, h2, h3, add_plain]
  rfl
/-- In w the slice (a, n, n) has the sets L. -/
structure HasU (w : World) (a : Option Addr) (n : Nat) (L : List S4) : Prop where
  hlen : L.length = n
  small : n ≤ 1000
  cells : 0 < n → ∃ b, a = some ⟨b, 0, none⟩ ∧ b < w.heap.size ∧ ∀ i, i < n → ∀ q, q < 4 → w.cell? ⟨b, i * 4 + q, none⟩ = some (.int .u64 ((L.getD i noSet).get q))
def orS (o s : S4) : S4 := mapK (fun x y => bits BinOp.or IntKind.u64 x y) o s 4
def uni (L : List S4) : S4 := L.foldl orS noSet
theorem uni_take (L : List S4) (k : Nat) (h : k < L.length) : uni (L.take (k + 1)) = orS (uni (L.take k)) (L.getD k noSet) := by
  unfold uni
  rw [List.take_add_one, List.getElem?_eq_getElem h, Option.toList_some, List.foldl_append]
  simp only [List.foldl_cons, List.foldl_nil, List.getD, List.getElem?_eq_getElem h, Option.getD_some]
theorem orS_ok {o s : S4} (ho : OkS o) (hs : OkS s) : OkS (orS o s) := mapK_ok ho hs (fun x y hx hy => or_range hx hy) 4 (by omega)
theorem uni_ok {L : List S4} (h : ∀ s ∈ L, OkS s) : OkS (uni L) := by
  unfold uni
  have : ∀ (L : List S4) (o : S4), OkS o → (∀ s ∈ L, OkS s) → OkS (L.foldl orS o) := by
    intro L
    induction L with
    | nil => intro o ho _; exact ho
    | cons s L ih => intro o ho hl; exact ih _ (orS_ok ho (hl s (by simp))) (fun t ht => hl t (by simp [ht]))
  exact this L _ noSet_ok h
set_option maxHeartbeats 4000000 in
theorem union_any (w : World) (a : Option Addr) (n : Nat) (L : List S4) (hU : HasU w a n L) : Calls Tryd.prog 58 #[.slice a n n] w fun e w' => e = .returned (setV (uni L)) ∧ Below w.heap.size w w' := by
  have H := St.start Nope w
  have hl := hU.hlen
  have hn := hU.small
  replace hU := hide hU.cells
  go_enter Tryd.func58, Tryd.ntmps58
  go_wp2_with (first | (with_reducible refine at_alloc 25 ?_; refine wl_alloc25 H ?_; clear H; intro g w' H h1 h2; clear h1 h2))
  rename_i g1 w1 K hK
  go_loopw [10] (fun b wr => ∃ k : Nat, k ≤ n ∧ b = .int .i64 (k : Int) ∧ Hid (St Nope w wr [(true, g, 25, setA (uni (L.take k))), (true, g1, 25, setA noSet)])) (fun b _ => n - (intOf b).toNat)
  case atStart => exact ⟨0, by omega, rfl, H⟩
  case round =>
    obtain ⟨k, hk, rfl, H2⟩ := hrel
    clear H
    have H := H2.out
    clear H2
    by_cases hlt : k < n
    · have i1 : (k : Int) < n := by omega
      obtain ⟨b, rfl, hb, hc⟩ := hU.out (by omega)
      have hl25 := load25c (w := wr) (b := b) (o := k * 4) (s := L.getD k noSet) (fun q hq => (H.below.cell (p := ⟨b, k * 4 + q, none⟩) hb).trans (hc k hlt q hq))
      have e := hide (uni_take L k (by omega))
      generalize L.getD k noSet = s at hl25 e
      generalize uni (L.take k) = o at H e
      replace hc := hide hc
      replace hl25 := hide hl25
      go_wp2_with (first | (with_reducible refine at_load 25 ?_; first | (refine wl_load25 0 H rfl rfl ?_) | (refine wl_loadA 25 rfl hl25.out ?_)) | (with_reducible refine at_alloc 25 ?_; refine wl_alloc25 H ?_; clear H; intro g3 w' H h1 h2; clear h1 h2) | (with_reducible refine at_store 25 ?_; refine wl_store25 0 H rfl rfl rfl ?_; clear H; intro w' H))
      go_loopw [15] (fun b wr => ∃ j : Nat, j ≤ 4 ∧ b = .int .i64 (j : Int) ∧ Hid (St Nope w wr [(true, g3, 25, setA s), (true, g, 25, setA (mapK (fun x y => bits BinOp.or IntKind.u64 x y) o s j)), (true, g1, 25, setA noSet)])) (fun b _ => 4 - (intOf b).toNat)
      case atStart => exact ⟨0, by omega, rfl, H⟩
      case round =>
        obtain ⟨j, hj, rfl, H2⟩ := hrel
        clear H
        have H := H2.out
        clear H2
        by_cases hj4 : j < 4
        · have i2 : (j : Int) < 4 := by omega
          have hw := wr64 j (by omega)
          have hi2 := fun w => idx25 s j hj4 w
          generalize hx : mapK (fun x y => bits BinOp.or IntKind.u64 x y) o s j = m at H
          have hcl := H.cell 1 j rfl (setA_get m j hj4)
          have e2 : Hid (mapK (fun x y => bits BinOp.or IntKind.u64 x y) o s (j + 1) = m.put j (bits BinOp.or IntKind.u64 (m.get j) (s.get j))) := by rw [← hx]; rfl
          replace hx := hide hx
          go_wp2_with (first | (with_reducible refine at_store 23 ?_; refine wl_store1 1 j 23 (v := .int .u64 (bits BinOp.or IntKind.u64 (m.get j) (s.get j))) H rfl rfl rfl (by rw [setA_size]; exact hj4) one23 rfl ?_; clear H; intro w' H))
          go_roundw
          case rel => exact ⟨j + 1, by omega, by go_num, (by
            have h4 := H
            simp only [List.set_cons_succ, List.set_cons_zero] at h4
            rw [setA_put _ _ hj4, ← e2.out] at h4
            exact h4 : St Nope w _ _)⟩
          case measure => simp [intOf]; omega
        · obtain rfl : j = 4 := by omega
          go_wp2_with fail
          go_roundw
          case rel => exact ⟨k + 1, by omega, by go_num, (by rw [e.out]; exact H.tail : St Nope w _ _)⟩
          case measure => simp [intOf]; omega
    · obtain rfl : k = n := by omega
      rw [List.take_of_length_le (by omega)] at H
      go_wp2_with (first | (with_reducible refine at_load 25 ?_; refine wl_load25 0 H rfl rfl ?_) | (with_reducible refine at_store 25 ?_; refine wl_store25 1 H rfl rfl rfl ?_; clear H; intro w' H))
      refine bodyPost_ret (results_cell0 rfl _ _ g1 _ rfl (load25 (H.get 1 rfl))) rfl ?_
      exact ⟨rfl, H.below⟩
end Go.Proofs.YtnbhpojcckhlmaaDoor
