/-
  The chapter's example; what the rows of this seat share: the listed table as the door's own run lays it, how what came in is opened.
-/
import Derived.Test.YtmddkinecplooaaDoorRows
import Derived.Test.YtmddkinecplooaaDoorI
import Derived.Test.YtmddkinecplooaaDoorXI
import Derived.LaidMore
import Derived.Lib.LaidTab
import Derived.Stop.Joined
import Derived.Deep.Grids
namespace Go.Proofs.YtmddkinecplooaaDoor
open Go.ChangeShapes Go.WideShapes Go.ChangeAt Go.RowKit
set_option linter.unusedVariables false
set_option linter.unusedSimpArgs false

def laidAll : List (String × DataW Unit) := [("math/bits.deBruijn64tab", Rows.laid_math_bits_deBruijn64tab)]
theorem door_met (os : Os) (args : Array Value) : laidMetH Tryd.prog laidAll ((World.doorLaid Tryd.prog 400 os).forCall (fun _ _ => 0) ⟨#[], args, []⟩).memory :=
  laidMetH_of_parts3 (fuel := 8) (laidMet_of_run' 8 (by kernel_rfl) (by kernel_rfl)) (by kernel_rfl) (by kernel_rfl)
theorem gTab : Tryd.prog.globalNamed "math/bits.deBruijn64tab" = some 0 := by kernel_rfl
theorem tTab : (Tryd.prog.globals[0]?).map (·.type) = some 113 := by kernel_rfl
theorem facts_of_laid {W : World} (h : laidMetH Tryd.prog laidAll W) : Tab W := by
  rw [MakeChecks.laidMetH_plain _ _ _ (by kernel_rfl)] at h
  have hT := Lib.tabIs_of_head (zs := Lib.deBruijn64tab.map (fun (n : Nat) => (n : Int))) gTab tTab Tryd.underlying113 Tryd.underlying5 (by kernel_rfl) (by kernel_rfl) h
  intro i hi
  have := hT.cell gTab i (by simpa [Lib.deBruijn64tab] using hi)
  rw [this]
  congr 2
  have e : Lib.deBruijn64tab[i]? = some Lib.deBruijn64tab[i] := List.getElem?_eq_getElem (by simpa [Lib.deBruijn64tab] using hi)
  simp [List.getD, e]

theorem cells24 : Tryd.prog.cellsOf 24 = 4 := by kernel_rfl
theorem cells22 : Tryd.prog.cellsOf 22 = 1 := by kernel_rfl
theorem cells3 : Tryd.prog.cellsOf 3 = 1 := by kernel_rfl
theorem four {α : Type} {l : List α} (h : l.length = 4) : ∃ a b c d, l = [a, b, c, d] := by
  match l, h with
  | [a, b, c, d], _ => exact ⟨a, b, c, d, rfl⟩
set_option maxRecDepth 100000 in
/-- A state that came in. -/
theorem came_state {H : Type} {enc : TypeId × Value → H} {W : World} {base : Nat} {v : Value} {d : DataW H} {p : List MemPlace} (hv : Value.okWide Tryd.prog W .any base 24 v) (h : DataW.Trod enc Tryd.prog W 0 (fun _ => true) true 24 v d p) :
    ∃ n l a b : Int, v = .agg #[.int .i64 n, .int .u64 l, .int .i64 a, .int .i64 b] ∧ (Lit.int .i64 n).wf = true ∧ (Lit.int .u64 l).wf = true ∧ (Lit.int .i64 a).wf = true ∧ (Lit.int .i64 b).wf = true := by
  obtain ⟨cs, rfl, hs⟩ := okWide_struct Tryd.underlying24 hv
  obtain ⟨fuel, h⟩ := h
  obtain ⟨xs, n, rfl, hx, hl, hxl, hf⟩ := DataW.trod_struct Tryd.underlying24 h
  have hl' : cs.toList.length = 4 := by rw [cells24] at hs; simpa using hs
  have hcc : (Value.agg cs).cells.toList = cs.toList := rfl
  rw [hcc] at hf
  obtain ⟨c0, c1, c2, c3, hcs⟩ := four hl'
  obtain ⟨x0, x1, x2, x3, rfl⟩ := four (show xs.length = 4 from hxl)
  rw [hcs] at hf
  have h0 := hf 0 _ rfl
  have h1 := hf 1 _ rfl
  have h2 := hf 2 _ rfl
  have h3 := hf 3 _ rfl
  simp only [cells3, cells22, List.drop_zero, List.take_succ_cons, List.take_zero, List.drop_succ_cons, List.getElem?_cons_zero, List.getElem?_cons_succ] at h0 h1 h2 h3
  obtain ⟨n0, e0, -, w0⟩ := DataW.trod_int Tryd.underlying3 h0
  obtain ⟨n1, e1, -, w1⟩ := DataW.trod_int Tryd.underlying22 h1
  obtain ⟨n2, e2, -, w2⟩ := DataW.trod_int Tryd.underlying3 h2
  obtain ⟨n3, e3, -, w3⟩ := DataW.trod_int Tryd.underlying3 h3
  simp [cells22, cells3] at e0 e1 e2 e3
  refine ⟨n0, n1, n2, n3, ?_, w0, w1, w2, w3⟩
  rw [show cs = #[c0, c1, c2, c3] by cases cs; simp_all, e0, e1, e2, e3]

/-- Bools in memory. -/
structure HasO (w : World) (a : Option Addr) (len cap : Nat) (B : Nat → Bool) : Prop where
  le : len ≤ cap
  capb : cap ≤ maxLen
  cells : 0 < len → ∃ b off, a = some ⟨b, off, none⟩ ∧ b < w.heap.size ∧ ∀ i, i < len → w.cell? ⟨b, off + i, none⟩ = some (.bool (B i))
theorem HasO.kept {w w' : World} {a : Option Addr} {len cap : Nat} {B : Nat → Bool} {K : Nat} (h : HasO w a len cap B) (hb : Below K w w') (hB : w.heap.size ≤ K) : HasO w' a len cap B := by
  refine ⟨h.le, h.capb, fun hp => ?_⟩
  obtain ⟨b, off, e1, e2, e3⟩ := h.cells hp
  exact ⟨b, off, e1, Nat.lt_of_lt_of_le e2 hb.size, fun i hi => (hb.cell (p := ⟨b, off + i, none⟩) (Nat.lt_of_lt_of_le e2 hB)).trans (e3 i hi)⟩
theorem came_bools {H : Type} {enc : TypeId × Value → H} {W : World} {base : Nat} {a : Option Addr} {len cap : Nat} {d : DataW H} {p : List MemPlace} (h : DataW.Trod enc Tryd.prog W base (fun _ => true) true 28 (.slice a len cap) d p) : ∃ B, HasO W a len cap B := by
  obtain ⟨fuel, hf⟩ := h
  rcases Deep.open_bools Tryd.underlying28 Tryd.underlying4 (by kernel_rfl) hf with ⟨hcs, _⟩ | ⟨x, l, c, B, hcs, _, hl, hm, _, hcell⟩
  · simp [Value.cells] at hcs
    obtain ⟨rfl, rfl, rfl⟩ := hcs
    exact ⟨fun _ => false, Nat.le_refl _, Nat.zero_le _, fun h => by omega⟩
  · simp [Value.cells] at hcs
    obtain ⟨rfl, rfl, rfl⟩ := hcs
    refine ⟨B, hl, hm, fun hp => ?_⟩
    obtain ⟨b, off, spot⟩ := x
    have hc := hcell 0 (by omega)
    have hspot : spot = none := by simpa [Addr.add] using World.cell?_spot hc
    subst hspot
    refine ⟨b, off, rfl, ?_, fun i hi => ?_⟩
    · have := World.block_lt_of_cell? W _ hc
      rwa [add_plain] at this
    · have := hcell i (by omega)
      rwa [add_plain] at this

theorem among_ex (x : Int) (n : Nat) (N : Int) (hN : N = (n : Int)) (hx : (Lit.int .i64 x).wf = true) (h1 : 1 ≤ n) (h2 : n ≤ 9223372036854775807) : ∃ m : Nat, m < n ∧ ∀ w, Calls Tryd.prog 9 #[.int .i64 x, .int .i64 N] w fun e w' => e = .returned (.int .i64 (m : Int)) ∧ w' = w :=
  ⟨amg x n, amg_lt x n h1, fun w => by rw [hN]; exact among_any x n (wf_i64 hx) h1 h2 w⟩

set_option maxRecDepth 100000 in
set_option maxHeartbeats 2000000 in
theorem works_any (w : World) (hT : Tab w) : Calls Tryd.prog 21 #[] w fun e w' => e = .returned (.bool true) ∧ Below w.heap.size w w' := by
  have hpos := hide hT.pos
  have N := hide (newWr w w.heap.size (Nat.le_refl _))
  have hz := zero24
  have heq : ∀ w, (binOp .eql 24 (.agg #[.int .i64 3, .int .u64 4, .int .i64 63, .int .i64 0]) (.agg #[.int .i64 3, .int .u64 4, .int .i64 63, .int .i64 0])).run Tryd.prog w = .ok (.bool true) w := fun w => by rw [run_eql24]; simp
  replace hT := hide hT
  go_enter Tryd.func21, Tryd.ntmps21
  go_wp2_with fail
  refine N.out.mono ?_
  rintro e w1 ⟨p, rfl, b1, W1, -⟩
  have E1 := hide (WS.start W1 (hT.out.below b1) hpos.out)
  replace b1 := hide b1
  clear N W1 hT
  go_wp2_with fail
  refine (begin_any _).mono ?_
  rintro e w2 ⟨rfl, b2⟩
  have E2 := hide (E1.out.below b2)
  have P2 := hide (putXi (n := 0) (L := 0) (a := 64) (b := 0) (V := 5) (a' := 64) (b' := 0) (X := 5) (Y := 64) E2.out.wr E2.out.t hpos.out ⟨by decide, .inl ⟨rfl, rfl⟩⟩ (by decide) (by decide) (by decide) rfl rfl rfl rfl rfl rfl rfl rfl rfl rfl rfl rfl)
  clear E1 b2
  go_wp2_with fail
  refine P2.out.mono ?_
  rintro e w3 ⟨rfl, v3, W3, D3⟩
  have E3' := E2.out.put D3 W3
  have S3 := hide (Kx.new E3'.wr 24 #[.int .i64 1, .int .u64 5, .int .i64 64, .int .i64 0])
  have E3 := hide (E3'.alloc (.cells #[.int .i64 1, .int .u64 5, .int .i64 64, .int .i64 0] 24))
  have P3 := hide (putXi (n := 1) (L := 5) (a := 64) (b := 0) (V := 5) (a' := 64) (b' := 0) (X := 0) (Y := 1) E3.out.wr E3.out.t hpos.out ⟨by decide, .inl ⟨rfl, rfl⟩⟩ (by decide) (by decide) (by decide) rfl rfl rfl rfl rfl rfl (by decide +kernel) rfl (by decide +kernel) rfl (by decide +kernel) (by decide +kernel))
  have hge : Hid (w1.heap.size ≤ w3.heap.size) := E3'.d.bel.size
  clear E2 P2 W3 D3 E3'
  have s0 := S3.out.bx.st4.c0
  have s1 := S3.out.bx.st4.c1
  have s2 := S3.out.bx.st4.c2
  have s3 := S3.out.bx.st4.c3
  go_wp2_with fail
  refine P3.out.mono ?_
  rintro e w4 ⟨rfl, v4, W4, D4⟩
  have E4 := hide (E3.out.put D4 W4)
  have S4 := hide (S3.out.did D4)
  clear E3 S3 P3 W4 D4 s0 s1 s2 s3
  have bt := but_set4 w4 w3.heap.size (.int .i64 2) (.int .u64 5) (.int .i64 64) (.int .i64 0)
  have E5 := hide (E4.out.but bt hge.out S4.out.nf)
  have S5 : Hid (Kx _ p v4 w3.heap.size 24 #[.int .i64 2, .int .u64 5, .int .i64 64, .int .i64 0]) := ⟨S4.out.bx.set4 (.int .i64 2) (.int .u64 5) (.int .i64 64) (.int .i64 0), S4.out.nf⟩
  have L5 := hide (lenWr E5.out.wr)
  have P5 := hide (putXi (n := 2) (L := 5) (a := 64) (b := 0) (V := 4) (a' := 63) (b' := 0) (X := 32641) (Y := 15) E5.out.wr E5.out.t hpos.out ⟨by decide, .inl ⟨rfl, rfl⟩⟩ (by decide) (by decide) (by decide) rfl rfl rfl rfl rfl rfl (by decide +kernel) rfl (by decide +kernel) rfl (by decide +kernel) (by decide +kernel))
  obtain ⟨p0, p1, p2, p3, p4, p5, p6, p7, p8, p9, p10⟩ := S4.out.bx.st4
  have s0 := S5.out.bx.st4.c0
  have s1 := S5.out.bx.st4.c1
  have s2 := S5.out.bx.st4.c2
  have s3 := S5.out.bx.st4.c3
  clear bt E4 S4
  go_wp2_with fail
  refine L5.out.mono ?_
  rintro e wq ⟨rfl, rfl⟩
  go_wp2_with fail
  refine P5.out.mono ?_
  rintro e w6 ⟨rfl, v6, W6, D6⟩
  have E6 := hide (E5.out.put D6 W6)
  have S6 := hide (S5.out.did D6)
  clear E5 S5 P5 L5 W6 D6 s0 s1 s2 s3 p0 p1 p2 p3 p4 p5 p6 p7 p8 p9 p10
  have bt := but_set4 w6 w3.heap.size (.int .i64 3) (.int .u64 4) (.int .i64 63) (.int .i64 0)
  have E7 := hide (E6.out.but bt hge.out S6.out.nf)
  have S7 : Hid (Kx _ p v6 w3.heap.size 24 #[.int .i64 3, .int .u64 4, .int .i64 63, .int .i64 0]) := ⟨S6.out.bx.set4 (.int .i64 3) (.int .u64 4) (.int .i64 63) (.int .i64 0), S6.out.nf⟩
  have L7 := hide (lenWr E7.out.wr)
  obtain ⟨p0, p1, p2, p3, p4, p5, p6, p7, p8, p9, p10⟩ := S6.out.bx.st4
  have s0 := S7.out.bx.st4.c0
  have s1 := S7.out.bx.st4.c1
  have s2 := S7.out.bx.st4.c2
  have s3 := S7.out.bx.st4.c3
  clear bt
  go_wp2_with fail
  refine L7.out.mono ?_
  rintro e wq ⟨rfl, rfl⟩
  go_wp2_with fail
  go_ret
  exact ⟨rfl, b1.out.trans E7.out.d.bel⟩
end Go.Proofs.YtmddkinecplooaaDoor
