/-
  The walk of SyntaxReads.
-/
import Derived.Test.YtnbhpojcckhlmaaDoorAA
namespace Go.Proofs.YtnbhpojcckhlmaaDoor
open Go.RowKit
set_option linter.unusedVariables false
set_option linter.unusedSimpArgs false

section
variable {S : Nat → Prop} {w0 w : World} {L : List Ent} {ops : Array Oper} {rest : List Oper} {a : Act} {Q : Exit → Act → World → Prop} {dst : Option Nat} {x y : Operand} {ty : TypeId} {pos : String} {after : Array Edge} {gd : Nat × Bool}
theorem at_loadG (t : TypeId) (h : wpList Tryd.prog ops Q (⟨dst, .load t x, ty, pos, after, some gd⟩ :: rest) a w) : wpList Tryd.prog ops Q (⟨dst, .load t x, ty, pos, after, some gd⟩ :: rest) a w := h
/-- A guarded load whose guard holds. -/
theorem wl_loadG28 (i : Nat) (H : St S w0 w L) (hw : Region.wanted ⟨dst, .load 28 x, ty, pos, after, some gd⟩ (yielded ops a.tmps) = true) {b : Bool} {g : Nat} {n : Int} {s : S4} {l : Value} {mn mx : Int} (h : L[i]? = some (b, g, 28, reA n s l mn mx)) (hx : a.eval x = .pointer (some ⟨g, 0, none⟩))
    (k : wpList Tryd.prog ops Q rest (a.put dst (reV n s l mn mx)) w) : wpList Tryd.prog ops Q (⟨dst, .load 28 x, ty, pos, after, some gd⟩ :: rest) a w := by
  refine wpList_step fun K hK => ?_
  rw [if_pos hw]
  unfold Oper.wp execOp
  simp only [hx, Instr.loadAt, Instr.sureAddr, Sem.run_bind, Sem.run_pure, Result.andThen_ok, load28 (H.get i h)]
  exact hK _ _ k
end
set_option maxHeartbeats 8000000 in
set_option maxRecDepth 100000 in
theorem readsW (a0 : ByteArray) (w : World) (hT : Tab w) (h0 : a0.size ≤ maxLen) : Calls Tryd.prog 4 #[.string a0] w fun e w' => e = .returned (.bool true) ∧ Below w.heap.size w w' := by
  unfold maxLen at h0
  obtain ⟨m, hm⟩ : ∃ m : Nat, min a0.size 257 = m := ⟨_, rfl⟩
  have hm1 : m ≤ a0.size := by omega
  have hm2 : m ≤ 257 := by omega
  have p1 : (if ((a0.size : Nat) : Int) < 257 then ((a0.size : Nat) : Int) else 257) = (m : Int) := by rw [← hm]; split <;> omega
  have p2 : (if (257 : Int) < ((a0.size : Nat) : Int) then 257 else ((a0.size : Nat) : Int)) = (m : Int) := by rw [← hm]; split <;> omega
  replace hm := hide hm
  have i1 : (m : Int) ≤ (a0.size : Int) := by omega
  go_enter Tryd.func4, Tryd.ntmps4
  go_wp2_with fail
  refine (works_any w hT).mono ?_
  rintro e w1 ⟨rfl, B1⟩
  have hT1 := hide (hT.below B1)
  go_wp2_with fail
  have hsz : (a0.extract 0 m).size = m := by simp; omega
  generalize a0.extract 0 m = s at hsz
  have hs1 := B1.size
  refine (parse_any s w1 hT1.out).mono ?_
  rintro e w2 ⟨B2, ⟨h256, rfl⟩ | ⟨h256, ⟨p, hp, rfl⟩ | ⟨x, t, hp, rfl, T⟩⟩⟩
  · have H := (St.start Nope w).call B1 (Nat.le_refl _)
    replace H := H.call B2 (Nat.le_refl _)
    have j1 : (256 : Int) < (s.size : Int) := by omega
    have j2 : (0 : Int) ≤ (s.size : Int) := by omega
    unfold zeroRe
    clear p1 p2 hsz
    go_wp2_with (first | (with_reducible refine at_alloc 28 ?_; refine wl_alloc28 H ?_; clear H; intro g w' H q1 q2) | (with_reducible refine at_store 28 ?_; refine wl_store28 0 H rfl rfl rfl rfl ?_; clear H; intro w' H))
    go_ret
    exact ⟨rfl, H.below⟩
  · have hg := parse_good s
    rw [hp] at hg
    have H := (St.start Nope w).call B1 (Nat.le_refl _)
    replace H := H.call B2 (Nat.le_refl _)
    have j1 : (p : Int) ≤ (s.size : Int) := by simp only at hg; omega
    unfold zeroRe
    clear p1 p2 hsz hg hp
    go_wp2_with (first | (with_reducible refine at_alloc 28 ?_; refine wl_alloc28 H ?_; clear H; intro g w' H q1 q2) | (with_reducible refine at_store 28 ?_; refine wl_store28 0 H rfl rfl rfl rfl ?_; clear H; intro w' H))
    go_ret
    exact ⟨rfl, H.below⟩
  · have hg := parse_good s
    rw [hp] at hg
    obtain ⟨g1, g2, g3⟩ := hg
    have SZ := hide (fun w' T => size_any t (fun b => w1.heap.size ≤ b) x w' T g1 (by omega) (by omega))
    have CK := hide (fun w' T => check_any t (fun b => w1.heap.size ≤ b) x w' T g1 (by omega) (by omega))
    have H := St.start Nope w2
    have hs2 := B2.size
    have hB : Hid (Below w.heap.size w w2) := B1.trans (B2.mono hs1)
    have hq1 : (1 : Int) ≤ (szT t : Int) := by simp only [szT]; omega
    have hq2 : (szT t : Int) ≤ 2 * (s.size : Int) + 1 := by omega
    obtain ⟨z, hz⟩ : ∃ z, szT t = z := ⟨_, rfl⟩
    rw [hz] at SZ hq1 hq2
    have hT2 : Hid (TrV w2 (fun b => w1.heap.size ≤ b) x t) := T
    have hkeep : Hid (∀ w', Below w2.heap.size w2 w' → TrV w' (fun b => w1.heap.size ≤ b) x t) := fun w' hb => hT2.out.kept (fun b _ hl => hb.block b hl)
    obtain ⟨va, vn, vc, hx⟩ := T.val
    subst hx
    clear p1 p2 g1 hp T hsz
    replace hz := hide hz
    go_wp2_with (first | (with_reducible refine at_alloc 28 ?_; refine wl_alloc28 H ?_; clear H; intro g w' H q1 q2) | (with_reducible refine at_store 28 ?_; refine wl_store28 0 H rfl rfl rfl rfl ?_; clear H; intro w' H) | ((with_reducible refine at_loadG 28 ?_); refine wl_loadG28 0 H rfl rfl rfl ?_))
    refine (CK.out _ (hkeep.out _ H.below)).mono ?_
    rintro e w3 ⟨rfl, B3⟩
    replace H := H.call B3 (Nat.le_refl _)
    go_wp2_with (first | ((with_reducible refine at_loadG 28 ?_); refine wl_loadG28 0 H rfl rfl rfl ?_))
    refine (SZ.out _ (hkeep.out _ H.below)).mono ?_
    rintro e w4 ⟨rfl, B4⟩
    replace H := H.call B4 (Nat.le_refl _)
    go_wp2_with (first | ((with_reducible refine at_loadG 28 ?_); refine wl_loadG28 0 H rfl rfl rfl ?_))
    refine (SZ.out _ (hkeep.out _ H.below)).mono ?_
    rintro e w5 ⟨rfl, B5⟩
    replace H := H.call B5 (Nat.le_refl _)
    go_wp2_with fail
    go_ret
    exact ⟨rfl, hB.out.trans (H.below.mono hB.out.size)⟩
end Go.Proofs.YtnbhpojcckhlmaaDoor
