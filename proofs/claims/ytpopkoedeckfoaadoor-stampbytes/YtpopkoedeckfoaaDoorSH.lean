/-
  What the rows of this seat share: the listed table as the door's own run lays it, and as the walks take it; how a state that came in is opened.
-/
import Derived.Test.YtpopkoedeckfoaaDoorRows
import Derived.Test.YtpopkoedeckfoaaDoorI
import Derived.Test.YtpopkoedeckfoaaDoorSG
import Derived.LaidMore
import Derived.Lib.LaidTab
import Derived.Stop.Joined
namespace Go.Proofs.YtpopkoedeckfoaaDoor
open Go.ChangeShapes Go.WideShapes Go.ChangeAt Go.RowKit
set_option linter.unusedVariables false
set_option linter.unusedSimpArgs false

def laidAll : List (String × DataW Unit) := [("tidepole/stamp.classes", Rows.laid_tidepole_stamp_classes)]
theorem door_met (os : Os) (args : Array Value) : laidMetH Tryd.prog laidAll ((World.doorLaid Tryd.prog 400 os).forCall (fun _ _ => 0) ⟨#[], args, []⟩).memory :=
  laidMetH_of_parts3 (fuel := 8) (laidMet_of_run' 8 (by kernel_rfl) (by kernel_rfl)) (by kernel_rfl) (by kernel_rfl)
theorem gCls : Tryd.prog.globalNamed "tidepole/stamp.classes" = some 0 := by kernel_rfl
theorem tCls : (Tryd.prog.globals[0]?).map (·.type) = some 100 := by kernel_rfl
theorem cells96 : Tryd.prog.cellsOf 96 = 3 := by kernel_rfl
theorem cells23 : Tryd.prog.cellsOf 23 = 3 := by kernel_rfl
theorem cells33 : Tryd.prog.cellsOf 33 = 1 := by kernel_rfl
theorem cells3 : Tryd.prog.cellsOf 3 = 1 := by kernel_rfl
theorem cells100 : Tryd.prog.cellsOf 100 = 15 := by kernel_rfl

theorem three {α : Type} {l : List α} (h : l.length = 3) : ∃ a b c, l = [a, b, c] := by
  match l, h with
  | [a, b, c], _ => exact ⟨a, b, c, rfl⟩
theorem one {α : Type} {l : List α} {a b : α} (h : [a] = [b]) : a = b := by simpa using h

theorem in_threes {α : Type} (l : List α) (h : l.length = 15) : l = (l.drop (0 * 3)).take 3 ++ ((l.drop (1 * 3)).take 3 ++ ((l.drop (2 * 3)).take 3 ++ ((l.drop (3 * 3)).take 3 ++ (l.drop (4 * 3)).take 3))) := by
  have e4 : (l.drop (4 * 3)).take 3 = l.drop 12 := List.take_of_length_le (by simp; omega)
  have e3 : (l.drop (3 * 3)).take 3 ++ l.drop 12 = l.drop 9 := by have := List.take_append_drop 3 (l.drop 9); rwa [List.drop_drop] at this
  have e2 : (l.drop (2 * 3)).take 3 ++ l.drop 9 = l.drop 6 := by have := List.take_append_drop 3 (l.drop 6); rwa [List.drop_drop] at this
  have e1 : (l.drop (1 * 3)).take 3 ++ l.drop 6 = l.drop 3 := by have := List.take_append_drop 3 (l.drop 3); rwa [List.drop_drop] at this
  rw [e4, e3, e2, e1]
  exact (List.take_append_drop 3 l).symm

theorem opened96 {H : Type} {enc : TypeId × Value → H} {w : World} {base : Nat} {sp : Nat → Bool} {held : Bool} {fuel : Nat} {cs : List Value} {p : List MemPlace} {a b c : Int}
    (h : DataW.trod enc Tryd.prog w base sp held fuel 96 cs = some (.agg [.lit (.int .u64 a), .lit (.int .i64 b), .lit (.int .i64 c)], p)) : cs = [.int .u64 a, .int .i64 b, .int .i64 c] := by
  obtain ⟨xs, n, rfl, hx, hl, hxl, hf⟩ := DataW.trod_struct Tryd.underlying96 h
  rw [cells96] at hl
  obtain ⟨c0, c1, c2, rfl⟩ := three hl
  obtain ⟨x0, x1, x2, rfl⟩ := three (show xs.length = 3 from hxl)
  have h0 := hf 0 _ rfl
  have h1 := hf 1 _ rfl
  have h2 := hf 2 _ rfl
  simp only [cells33, cells3, List.drop_zero, List.take_succ_cons, List.take_zero, List.drop_succ_cons, List.getElem?_cons_zero, List.getElem?_cons_succ] at h0 h1 h2
  obtain ⟨n0, e0, rfl, _⟩ := DataW.trod_int Tryd.underlying33 h0
  obtain ⟨n1, e1, rfl, _⟩ := DataW.trod_int Tryd.underlying3 h1
  obtain ⟨n2, e2, rfl, _⟩ := DataW.trod_int Tryd.underlying3 h2
  simp [cells33, cells3] at hx e0 e1 e2
  obtain ⟨⟨rfl, rfl, rfl⟩, -⟩ := hx
  rw [e0, e1, e2]

theorem facts_of_laid {W : World} (h : laidMetH Tryd.prog laidAll W) : Tab W := by
  rw [MakeChecks.laidMetH_plain _ _ _ (by kernel_rfl)] at h
  obtain ⟨ps, ⟨g', t', cs, fuel, p, q, hg', ht', hvar, hd, _, _⟩, _⟩ := h
  obtain rfl := Option.some.inj (gCls.symm.trans hg')
  obtain rfl := Option.some.inj (tCls.symm.trans ht')
  obtain ⟨xs, n, rfl, hx, hl, hxl, hf⟩ := DataW.trod_array Tryd.underlying100 hd
  have h0 := hf 0 (by decide)
  have h1 := hf 1 (by decide)
  have h2 := hf 2 (by decide)
  have h3 := hf 3 (by decide)
  have h4 := hf 4 (by decide)
  match xs, hxl with
  | [x0, x1, x2, x3, x4], _ =>
    simp only [Rows.laid_tidepole_stamp_classes, List.map_cons, List.map_nil, Prod.mk.injEq, DataW.agg.injEq, List.cons.injEq, and_true] at hx
    obtain ⟨⟨e0, e1, e2, e3, e4⟩, -⟩ := hx
    simp only [cells96, List.getElem?_cons_zero, List.getElem?_cons_succ] at h0 h1 h2 h3 h4
    obtain ⟨d0, p0⟩ := x0
    obtain ⟨d1, p1⟩ := x1
    obtain ⟨d2, p2⟩ := x2
    obtain ⟨d3, p3⟩ := x3
    obtain ⟨d4, p4⟩ := x4
    simp only at e0 e1 e2 e3 e4
    subst e0 e1 e2 e3 e4
    have k0 := opened96 h0
    have k1 := opened96 h1
    have k2 := opened96 h2
    have k3 := opened96 h3
    have k4 := opened96 h4
    rw [cells100] at hl
    have hcs : cs.toList = [.int .u64 0, .int .i64 1, .int .i64 0, .int .u64 2, .int .i64 2, .int .i64 7, .int .u64 6, .int .i64 3, .int .i64 12, .int .u64 14, .int .i64 4, .int .i64 20, .int .u64 15, .int .i64 4, .int .i64 48] := by
      rw [in_threes cs.toList hl, k0, k1, k2, k3, k4]
      rfl
    have hcs2 : cs = #[.int .u64 0, .int .i64 1, .int .i64 0, .int .u64 2, .int .i64 2, .int .i64 7, .int .u64 6, .int .i64 3, .int .i64 12, .int .u64 14, .int .i64 4, .int .i64 20, .int .u64 15, .int .i64 4, .int .i64 48] := by
      cases cs; simp_all
    unfold World.var? at hvar
    rw [gCls] at hvar
    simp only [Option.bind_some] at hvar
    split at hvar
    · rename_i c t fr hh
      cases hvar
      exact ⟨t, fr, by rw [← hcs2]; exact hh⟩
    · cases hvar

/-- A state that came in. -/
theorem came_state {H : Type} {enc : TypeId × Value → H} {W : World} {base : Nat} {v : Value} {d : DataW H} {p : List MemPlace} (hv : Value.okWide Tryd.prog W .any base 23 v) (h : DataW.Trod enc Tryd.prog W 0 (fun _ => true) true 23 v d p) :
    ∃ n l e : Int, v = .agg #[.int .i64 n, .int .i64 l, .int .i64 e] ∧ (Lit.int .i64 n).wf = true ∧ (Lit.int .i64 l).wf = true ∧ (Lit.int .i64 e).wf = true := by
  obtain ⟨cs, rfl, hs⟩ := okWide_struct Tryd.underlying23 hv
  obtain ⟨fuel, h⟩ := h
  obtain ⟨xs, n, rfl, hx, hl, hxl, hf⟩ := DataW.trod_struct Tryd.underlying23 h
  have hl' : cs.toList.length = 3 := by rw [cells23] at hs; simpa using hs
  have hcc : (Value.agg cs).cells.toList = cs.toList := rfl
  rw [hcc] at hf
  obtain ⟨c0, c1, c2, hcs⟩ := three hl'
  obtain ⟨x0, x1, x2, rfl⟩ := three (show xs.length = 3 from hxl)
  rw [hcs] at hf
  have h0 := hf 0 _ rfl
  have h1 := hf 1 _ rfl
  have h2 := hf 2 _ rfl
  simp only [cells3, List.drop_zero, List.take_succ_cons, List.take_zero, List.drop_succ_cons, List.getElem?_cons_zero, List.getElem?_cons_succ] at h0 h1 h2
  obtain ⟨n0, e0, -, w0⟩ := DataW.trod_int Tryd.underlying3 h0
  obtain ⟨n1, e1, -, w1⟩ := DataW.trod_int Tryd.underlying3 h1
  obtain ⟨n2, e2, -, w2⟩ := DataW.trod_int Tryd.underlying3 h2
  simp [cells33, cells3] at e0 e1 e2
  refine ⟨n0, n1, n2, ?_, w0, w1, w2⟩
  rw [show cs = #[c0, c1, c2] by cases cs; simp_all, e0, e1, e2]
end Go.Proofs.YtpopkoedeckfoaaDoor
