/-
  The mathematics of StampSmall.
-/
import Derived.Test.YtpopkoedeckfoaaDoorSH
namespace Go.Proofs.YtpopkoedeckfoaaDoor
open Go.RowKit
set_option linter.unusedVariables false

theorem among_ex (x : Int) (n : Nat) (N : Int) (hN : N = (n : Int)) (hx : (Lit.int .i64 x).wf = true) (h1 : 1 ≤ n) (h2 : n ≤ 9223372036854775807) : ∃ m : Nat, m < n ∧ ∀ w, Calls Tryd.prog 10 #[.int .i64 x, .int .i64 N] w fun e w' => e = .returned (.int .i64 (m : Int)) ∧ w' = w :=
  ⟨amg x n, amg_lt x n h1, fun w => by rw [hN]; exact among_any x n (wf_i64 hx) h1 h2 w⟩
theorem Wr.drew {w : World} {base p A n : Nat} {v : Value} (h : Wr w base p v A n) : Wr w.drew base p v A n := by
  obtain ⟨m, O, H⟩ := h
  exact ⟨m, O.drew, H⟩
theorem Box3.drew {w : World} {g : Nat} {x y z : Value} (h : Box3 w g x y z) : Box3 w.drew g x y z := ⟨h.c0, h.c1, h.c2, h.f0, h.f1, h.f2, h.lt⟩
theorem WB.drew {w0 w : World} {base p g : Nat} {v0 v : Value} {A k : Nat} {a b c : Value} (h : WB w0 w base p g v0 v A k a b c) : WB w0 w.drew base p g v0 v A k a b c :=
  ⟨h.s.drew, h.t, h.wr.drew, ⟨⟨h.d.bel.os, h.d.bel.tape, h.d.bel.output, h.d.bel.size, h.d.bel.block⟩, h.d.but.drew, h.d.own⟩, h.ns, h.b0, h.bg⟩
theorem WB.drewN {w0 w : World} {base p g : Nat} {v0 v : Value} {A k : Nat} {a b c : Value} (h : WB w0 w base p g v0 v A k a b c) (j : Nat) : WB w0 (w.drewN j) base p g v0 v A k a b c :=
  ⟨⟨h.s.c0, h.s.c1, h.s.c2, h.s.f0, h.s.f1, h.s.f2, h.s.lt⟩, h.t, h.wr.drewN j, ⟨⟨h.d.bel.os, h.d.bel.tape, h.d.bel.output, h.d.bel.size, h.d.bel.block⟩, h.d.but.drewN j, h.d.own⟩, h.ns, h.b0, h.bg⟩
/-- What is in one box stays where another is written. -/
theorem Box3.beside {w : World} {g k : Nat} {x y z : Value} (h : Box3 w k x y z) (hn : k ≠ g) (a b c : Value) :
    (((w.setCell ⟨g, 0, none⟩ a).setCell ⟨g, 1, none⟩ b).setCell ⟨g, 2, none⟩ c).cell? ⟨k, 0, none⟩ = some x ∧ (((w.setCell ⟨g, 0, none⟩ a).setCell ⟨g, 1, none⟩ b).setCell ⟨g, 2, none⟩ c).cell? ⟨k, 1, none⟩ = some y ∧ (((w.setCell ⟨g, 0, none⟩ a).setCell ⟨g, 1, none⟩ b).setCell ⟨g, 2, none⟩ c).cell? ⟨k, 2, none⟩ = some z := by
  have := h.same ((but3 w g a b c).block k h.lt hn) (but3 w g a b c).size
  exact ⟨this.c0, this.c1, this.c2⟩
def smL (t0 st i : Nat) : Nat := if i = 0 then 0 else t0 + (i - 1) * st
def smD (st i : Nat) : Nat := if i < 2 then 0 else st
def smT (t0 st i : Nat) : Nat := t0 + i * st
theorem sm_bound {t0 st i : Nat} (h0 : t0 < 17592186044416) (h1 : st ≤ 175921860444) (hi : i ≤ 53) : smT t0 st i ≤ 35184372088832 ∧ smL t0 st i ≤ 35184372088832 := by
  have h2 : i * st ≤ 53 * 175921860444 := Nat.mul_le_mul hi h1
  have h3 : (i - 1) * st ≤ 53 * 175921860444 := Nat.mul_le_mul (by omega) h1
  unfold smT smL
  split <;> omega
theorem sm_okS {t0 st i : Nat} (h0 : t0 < 17592186044416) (h1 : st ≤ 175921860444) (hi : i ≤ 53) : OkS i (smL t0 st i) (smD st i) :=
  ⟨by omega, (sm_bound h0 h1 hi).2, by unfold smD; split <;> omega⟩
theorem sm_step (t0 st i : Nat) (h : i ≠ 0) : smT t0 st i = smL t0 st i + st := by
  unfold smT smL
  rw [if_neg h]
  obtain ⟨j, rfl⟩ : ∃ j, i = j + 1 := ⟨i - 1, by omega⟩
  rw [Nat.add_mul, Nat.add_sub_cancel]; omega
theorem sm_okT {t0 st i : Nat} (h0 : t0 < 17592186044416) (h1 : st ≤ 175921860444) (h2 : 1 ≤ st) (hi : i ≤ 53) : OkT i (smL t0 st i) ((smT t0 st i : Nat) : Int) := by
  refine ⟨by omega, by have := (sm_bound h0 h1 hi).1; omega, ?_⟩
  by_cases h : i = 0
  · exact .inl h
  · right; have := sm_step t0 st i h; omega
theorem sm_dl (t0 st i : Nat) : dl i (smL t0 st i) (smT t0 st i) = smD st (i + 1) := by
  unfold dl
  by_cases h : i = 0
  · rw [if_pos h]; unfold smD; rw [if_pos (by omega)]
  · rw [if_neg h, sm_step t0 st i h]; unfold smD; rw [if_neg (by omega)]; omega
theorem sm_L (t0 st i : Nat) : smL t0 st (i + 1) = smT t0 st i := by unfold smL smT; rw [if_neg (by omega)]; simp
theorem sm_T (t0 st i : Nat) : smT t0 st i + st = smT t0 st (i + 1) := by unfold smT; rw [Nat.add_mul]; omega
theorem sm_one {t0 st i : Nat} (h : 2 ≤ i) : cdN i (smL t0 st i) (smD st i) (smT t0 st i) = 1 := by
  have hz : zz (smL t0 st i) (smD st i) (smT t0 st i) = 0 := by
    unfold zz
    rw [sm_step t0 st i (by omega), show smD st i = st by unfold smD; rw [if_neg (by omega)]]
    unfold zig
    rw [if_pos (by omega)]
    omega
  unfold cdN
  rw [if_neg (by omega), hz]
  rfl
end Go.Proofs.YtpopkoedeckfoaaDoor
