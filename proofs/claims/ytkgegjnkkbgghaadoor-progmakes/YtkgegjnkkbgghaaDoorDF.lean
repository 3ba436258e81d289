/-
  Itoa by the shelf; count; lines of a text.
-/
import Derived.Test.YtkgegjnkkbgghaaDoorDE
import Derived.Test.YtkgegjnkkbgghaaDoorQA
import Derived.Shelf.Strconv.Itoa3
import Derived.Lib.AppendIntMem
namespace Go.Proofs.YtkgegjnkkbgghaaDoor
open Go.RowKit Go.Shelf Go.Lib
set_option linter.unusedVariables false
set_option linter.unusedSimpArgs false

shelf_lay LaysM.n171 Nm 171 at Tryd as Tryd.laysIT
/-- The table of powers lies as its text lays it. -/
def Pw (w : World) : Prop := ∃ t fr, w.heap[0]? = some (.cells (Lib.pow10Tab.map fun z => Value.int .u64 z).toArray t fr)
theorem Pw.kept {w w' : World} {B : Nat} (h : Pw w) (hb : Below B w w') (hB : 0 < B) : Pw w' := by
  obtain ⟨t, fr, h⟩ := h
  exact ⟨t, fr, (hb.block 0 hB).trans h⟩
theorem Pw.pos {w : World} (h : Pw w) : 0 < w.heap.size := by
  obtain ⟨t, fr, h⟩ := h
  exact (Array.getElem?_eq_some_iff.1 h).1
theorem Pw.below {w w' : World} (h : Pw w) (hb : Below w.heap.size w w') : Pw w' := h.kept hb h.pos
theorem gPow : Tryd.prog.globalNamed "internal/strconv.uint64pow10" = some 0 := by kernel_rfl
theorem Pw.tab {w : World} (h : Pw w) : Lib.TabIs Tryd.prog w "internal/strconv.uint64pow10" .u64 Lib.pow10Tab := by
  obtain ⟨t, fr, h⟩ := h
  unfold Lib.TabIs World.var?
  rw [gPow]
  simp only [Option.bind_some, h]
theorem itoa_any (n : Int) (h0 : -9223372036854775808 ≤ n) (h1 : n ≤ 9223372036854775807) (w : World) (hP : Pw w) : Calls Tryd.prog 28 #[.int .i64 n] w fun e w' => e = .returned (.string ⟨(Lib.itoa n).toArray⟩) ∧ Below w.heap.size w w' := by
  refine (Any.strconv_Itoa Tryd.laysIT n h0 h1 w hP.tab).mono ?_
  rintro e w' ⟨rfl, k, os, rfl⟩
  exact ⟨rfl, below_grow _ w (Nat.le_refl _) k os⟩
/-- How many bytes the first words have. -/
def csn (s : S4) : Nat → Int
  | 0 => 0
  | k + 1 => csn s k + oc (s.get k)
theorem csn_range (s : S4) : ∀ k, 0 ≤ csn s k ∧ csn s k ≤ 127 * (k : Int)
  | 0 => by simp [csn]
  | k + 1 => by
    have := csn_range s k
    have := oc_range (s.get k)
    simp only [csn]
    omega
set_option maxHeartbeats 1000000 in
theorem count_any (s : S4) (w : World) : Calls Tryd.prog 29 #[setV s] w fun e w' => e = .returned (.int .i64 (csn s 4)) ∧ Below w.heap.size w w' := by
  have H := St.start Nope w
  go_enter Tryd.func29, Tryd.ntmps29
  go_wp2_with (first | ((with_reducible refine at_box 24 ?_); refine wl_box25 H rfl ?_; clear H; intro g w1 H q1 q2) | ((with_reducible refine at_load 24 ?_); refine wl_load25 0 H rfl rfl ?_))
  have HB := hide H.below
  clear H
  go_loop [3, 7] (fun nv iv => ∃ k : Nat, k ≤ 4 ∧ nv = .int .i64 (csn s k) ∧ iv = .int .i64 (k : Int)) (fun _ iv => 4 - (RowKit.intOf iv).toNat)
  case atStart => exact ⟨0, by omega, rfl, rfl⟩
  case round =>
    obtain ⟨k, hk, rfl, rfl⟩ := hrel
    by_cases hlt : k < 4
    · have i1 : (k : Int) < 4 := by omega
      have hx := fun w => idx25 s k hlt w
      have hr := csn_range s k
      have ho := oc_range (s.get k)
      obtain ⟨m, hm⟩ : ∃ m, m = csn s (k + 1) := ⟨_, rfl⟩
      have e1 : IntKind.i64.wrap (csn s k + oc (s.get k)) = m := by rw [IntKind.wrap_i64, hm]; simp only [csn]; omega
      have e2 : wrap64 (csn s k + oc (s.get k)) = m := by rw [w64 _ (by clear e1; omega), hm]; rfl
      replace hm := hide hm
      have hltH := hide hlt
      go_wp2_with fail
      refine (ones_any (s.get k) _).mono ?_
      rintro e w2 ⟨rfl, rfl⟩
      go_wp2_with fail
      go_round
      case rel => exact ⟨k + 1, hltH.out, by rw [← hm.out], by go_num⟩
      case measure => have := hltH.out; simp [RowKit.intOf]; omega
    · obtain rfl : k = 4 := by omega
      go_wp2
      go_ret
      exact ⟨rfl, HB.out⟩
/-- Numbers, a blank ahead of each. -/
def nums (l : List Int) : List UInt8 := l.flatMap (fun z => 32 :: Lib.itoa z)
/-- The line of an instruction. -/
def lineI (i : Ins) : List UInt8 := (fm i.op).nm.data.toList ++ nums ((if (fm i.op).hs = true then [csn i.s 4] else []) ++ [i.x, i.y].take (fm i.op).ex) ++ [10]
def txtI (L : List Ins) : List UInt8 := L.flatMap lineI
end Go.Proofs.YtkgegjnkkbgghaaDoor
