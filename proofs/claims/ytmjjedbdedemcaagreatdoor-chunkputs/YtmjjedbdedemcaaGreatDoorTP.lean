/-
  What the rows of this seat share: the listed tables as the door's own run lays them, and as the walks take them.
-/
import Derived.Test.YtmjjedbdedemcaaGreatDoorRows
import Derived.Test.YtmjjedbdedemcaaGreatDoorTO
import Derived.LaidMore
import Derived.Lib.LaidTab
import Derived.Stop.Joined
namespace Go.Proofs.YtmjjedbdedemcaaGreatDoor
open Go.ChangeShapes Go.WideShapes Go.ChangeAt Go.RowKit
set_option linter.unusedVariables false
set_option linter.unusedSimpArgs false

def laidAll : List (String × DataW Unit) := [("math/bits.deBruijn64tab", Rows.laid_math_bits_deBruijn64tab), ("tidepole/crc.nibbles", Rows.laid_tidepole_crc_nibbles), ("tidepole/stamp.classes", Rows.laid_tidepole_stamp_classes)]
theorem door_met (os : Os) (args : Array Value) : laidMetH Tryz.prog laidAll ((World.doorLaid Tryz.prog 400 os).forCall (fun _ _ => 0) ⟨#[], args, []⟩).memory :=
  laidMetH_of_parts3 (fuel := 8) (laidMet_of_run' 8 (by kernel_rfl) (by kernel_rfl)) (by kernel_rfl) (by kernel_rfl)
theorem gNib : Tryz.prog.globalNamed "tidepole/crc.nibbles" = some 1 := by kernel_rfl
theorem tNib : (Tryz.prog.globals[1]?).map (·.type) = some 174 := by kernel_rfl
theorem gCls : Tryz.prog.globalNamed "tidepole/stamp.classes" = some 0 := by kernel_rfl
theorem tCls : (Tryz.prog.globals[0]?).map (·.type) = some 165 := by kernel_rfl
theorem gDbt : Tryz.prog.globalNamed "math/bits.deBruijn64tab" = some 2 := by kernel_rfl
theorem tDbt : (Tryz.prog.globals[2]?).map (·.type) = some 177 := by kernel_rfl
theorem tabIs_of_vars {P : Program} {W : World} {name : String} {k : IntKind} {zs : List Int} {rest : List (String × DataW Unit)} {g : Nat} {t e : TypeId} {n : Nat} {ps : List MemPlace}
    (hg : P.globalNamed name = some g) (hty : (P.globals[g]?).map (·.type) = some t) (ht : P.underlying t = some (.array n e)) (he : P.underlying e = some (.int k)) (hce : P.cellsOf e = 1) (hct : P.cellsOf t = n)
    (h : DataW.LaidVars P W ((name, Lib.tabData k zs) :: rest) ps) : Lib.TabIs P W name k zs ∧ ∃ q, DataW.LaidVars P W rest q := by
  obtain ⟨g', t', cs, fuel, p, q, hg', ht', hvar, hd, hr, _⟩ := h
  obtain rfl := Option.some.inj (hg.symm.trans hg')
  obtain rfl := Option.some.inj (hty.symm.trans ht')
  refine ⟨?_, q, hr⟩
  unfold Lib.TabIs
  rw [hvar, ← Lib.cells_of_tab ht he hce hct hd]
theorem cellsCls : Tryz.prog.cellsOf 145 = 3 := by kernel_rfl
theorem cellsU : Tryz.prog.cellsOf 31 = 1 := by kernel_rfl
theorem cells3 : Tryz.prog.cellsOf 3 = 1 := by kernel_rfl
theorem cellsClss : Tryz.prog.cellsOf 165 = 15 := by kernel_rfl
theorem three {α : Type} {l : List α} (h : l.length = 3) : ∃ a b c, l = [a, b, c] := by
  match l, h with
  | [a, b, c], _ => exact ⟨a, b, c, rfl⟩
theorem in_threes {α : Type} (l : List α) (h : l.length = 15) : l = (l.drop (0 * 3)).take 3 ++ ((l.drop (1 * 3)).take 3 ++ ((l.drop (2 * 3)).take 3 ++ ((l.drop (3 * 3)).take 3 ++ (l.drop (4 * 3)).take 3))) := by
  have e4 : (l.drop (4 * 3)).take 3 = l.drop 12 := List.take_of_length_le (by simp; omega)
  have e3 : (l.drop (3 * 3)).take 3 ++ l.drop 12 = l.drop 9 := by have := List.take_append_drop 3 (l.drop 9); rwa [List.drop_drop] at this
  have e2 : (l.drop (2 * 3)).take 3 ++ l.drop 9 = l.drop 6 := by have := List.take_append_drop 3 (l.drop 6); rwa [List.drop_drop] at this
  have e1 : (l.drop (1 * 3)).take 3 ++ l.drop 6 = l.drop 3 := by have := List.take_append_drop 3 (l.drop 3); rwa [List.drop_drop] at this
  rw [e4, e3, e2, e1]
  exact (List.take_append_drop 3 l).symm
theorem openedCls {H : Type} {enc : TypeId × Value → H} {w : World} {base : Nat} {sp : Nat → Bool} {held : Bool} {fuel : Nat} {cs : List Value} {p : List MemPlace} {a b c : Int}
    (h : DataW.trod enc Tryz.prog w base sp held fuel 145 cs = some (.agg [.lit (.int .u64 a), .lit (.int .i64 b), .lit (.int .i64 c)], p)) : cs = [.int .u64 a, .int .i64 b, .int .i64 c] := by
  obtain ⟨xs, n, rfl, hx, hl, hxl, hf⟩ := DataW.trod_struct Tryz.underlying145 h
  rw [cellsCls] at hl
  obtain ⟨c0, c1, c2, rfl⟩ := three hl
  obtain ⟨x0, x1, x2, rfl⟩ := three (show xs.length = 3 from hxl)
  have h0 := hf 0 _ rfl
  have h1 := hf 1 _ rfl
  have h2 := hf 2 _ rfl
  simp only [cellsU, cells3, List.drop_zero, List.take_succ_cons, List.take_zero, List.drop_succ_cons, List.getElem?_cons_zero, List.getElem?_cons_succ] at h0 h1 h2
  obtain ⟨n0, e0, rfl, _⟩ := DataW.trod_int Tryz.underlying31 h0
  obtain ⟨n1, e1, rfl, _⟩ := DataW.trod_int Tryz.underlying3 h1
  obtain ⟨n2, e2, rfl, _⟩ := DataW.trod_int Tryz.underlying3 h2
  simp [cellsU, cells3] at hx e0 e1 e2
  obtain ⟨⟨rfl, rfl, rfl⟩, -⟩ := hx
  rw [e0, e1, e2]
theorem tabS_of {W : World} {ps : List MemPlace} {rest : List (String × DataW Unit)} (h : DataW.LaidVars Tryz.prog W (("tidepole/stamp.classes", Rows.laid_tidepole_stamp_classes) :: rest) ps) : TabS W := by
  obtain ⟨g', t', cs, fuel, p, q, hg', ht', hvar, hd, _, _⟩ := h
  obtain rfl := Option.some.inj (gCls.symm.trans hg')
  obtain rfl := Option.some.inj (tCls.symm.trans ht')
  obtain ⟨xs, n, rfl, hx, hl, hxl, hf⟩ := DataW.trod_array Tryz.underlying165 hd
  have h0 := hf 0 (by decide)
  have h1 := hf 1 (by decide)
  have h2 := hf 2 (by decide)
  have h3 := hf 3 (by decide)
  have h4 := hf 4 (by decide)
  match xs, hxl with
  | [x0, x1, x2, x3, x4], _ =>
    simp only [Rows.laid_tidepole_stamp_classes, List.map_cons, List.map_nil, Prod.mk.injEq, DataW.agg.injEq, List.cons.injEq, and_true] at hx
    obtain ⟨⟨e0, e1, e2, e3, e4⟩, -⟩ := hx
    simp only [cellsCls, List.getElem?_cons_zero, List.getElem?_cons_succ] at h0 h1 h2 h3 h4
    obtain ⟨d0, p0⟩ := x0
    obtain ⟨d1, p1⟩ := x1
    obtain ⟨d2, p2⟩ := x2
    obtain ⟨d3, p3⟩ := x3
    obtain ⟨d4, p4⟩ := x4
    simp only at e0 e1 e2 e3 e4
    subst e0 e1 e2 e3 e4
    have k0 := openedCls h0
    have k1 := openedCls h1
    have k2 := openedCls h2
    have k3 := openedCls h3
    have k4 := openedCls h4
    rw [cellsClss] at hl
    have hcs : cs.toList = [.int .u64 0, .int .i64 1, .int .i64 0, .int .u64 2, .int .i64 2, .int .i64 7, .int .u64 6, .int .i64 3, .int .i64 12, .int .u64 14, .int .i64 4, .int .i64 20, .int .u64 15, .int .i64 4, .int .i64 48] := by
      rw [in_threes cs.toList hl, k0, k1, k2, k3, k4]
      rfl
    have hcs2 : cs = #[.int .u64 0, .int .i64 1, .int .i64 0, .int .u64 2, .int .i64 2, .int .i64 7, .int .u64 6, .int .i64 3, .int .i64 12, .int .u64 14, .int .i64 4, .int .i64 20, .int .u64 15, .int .i64 4, .int .i64 48] := by
      cases cs; simp_all
    unfold World.var? at hvar
    rw [gCls] at hvar
    simp only [Option.bind_some] at hvar
    split at hvar
    · rename_i c t fr hh
      cases hvar
      exact ⟨t, fr, by rw [← hcs2]; exact hh⟩
    · cases hvar
theorem facts_of_laid {W : World} (h : laidMetH Tryz.prog laidAll W) : Tabs W := by
  rw [MakeChecks.laidMetH_plain _ _ _ (by kernel_rfl)] at h
  obtain ⟨ps, h, _⟩ := h
  obtain ⟨hX, q, h⟩ := tabIs_of_vars (zs := Lib.deBruijn64tab.map (fun (n : Nat) => (n : Int))) gDbt tDbt Tryz.underlying177 Tryz.underlying5 (by kernel_rfl) (by kernel_rfl) h
  obtain ⟨hC, q2, h⟩ := tabIs_of_vars (zs := nib.map (fun (n : Nat) => (n : Int))) gNib tNib Tryz.underlying174 Tryz.underlying94 (by kernel_rfl) (by kernel_rfl) h
  refine ⟨fun i hi => ?_, tabS_of h, fun i hi => ?_⟩
  · have := hC.cell gNib i (by simpa [nib] using hi)
    rw [this]
    congr 2
    have e : nib[i]? = some nib[i] := List.getElem?_eq_getElem (by simpa [nib] using hi)
    simp [List.getD, e]
  · have := hX.cell gDbt i (by simpa [Lib.deBruijn64tab] using hi)
    rw [this]
    congr 2
    have e : Lib.deBruijn64tab[i]? = some Lib.deBruijn64tab[i] := List.getElem?_eq_getElem (by simpa [Lib.deBruijn64tab] using hi)
    simp [List.getD, e]
end Go.Proofs.YtmjjedbdedemcaaGreatDoor
