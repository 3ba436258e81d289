/-
  Boxes; the small functions of xor; equality of structs.
-/
import Derived.Test.YtmddkinecplooaaDoorD
import Derived.Test.YtmddkinecplooaaDoorXA
import Derived.Laws.StructEq
import Derived.Deep.RegionHeld3
import Derived.Deep.RegionWith
namespace Go.Proofs.YtmddkinecplooaaDoor
open Go.RowKit
set_option linter.unusedVariables false
set_option linter.unusedSimpArgs false

/-- The block g has the values xs, which may be written. -/
def Bx (w : World) (g : Nat) (t : TypeId) (xs : Array Value) : Prop := w.heap[g]? = some (.cells xs t (0, 0))
section
variable {w w' : World} {g : Nat} {t : TypeId} {xs : Array Value}
theorem Bx.lt (h : Bx w g t xs) : g < w.heap.size := (Array.getElem?_eq_some_iff.1 h).1
theorem Bx.fz (h : Bx w g t xs) (i : Nat) : w.frozen? ⟨g, i, none⟩ = false := frozen_of_row w g i _ t h
theorem Bx.new (w : World) (t : TypeId) (xs : Array Value) : Bx (w.alloc (.cells xs t)) w.heap.size t xs := heap_alloc_new w _
theorem Bx.new_at {w : World} {g : Nat} (hg : g = w.heap.size) (t : TypeId) (xs : Array Value) : Bx (w.alloc (.cells xs t)) g t xs := by subst hg; exact Bx.new w t xs
theorem Bx.kept (h : Bx w g t xs) {B : Nat} (hb : Below B w w') (hB : g < B) : Bx w' g t xs := (hb.block g hB).trans h
theorem Bx.below (h : Bx w g t xs) (hb : Below w.heap.size w w') : Bx w' g t xs := h.kept hb h.lt
theorem Bx.but (h : Bx w g t xs) {S : Nat → Prop} (hb : But S w w') (hS : ¬ S g) : Bx w' g t xs := (hb.block g h.lt hS).trans h
theorem Bx.alloc (h : Bx w g t xs) (o : Obj) : Bx (w.alloc o) g t xs := h.below ((Below.refl _ _).alloc (Nat.le_refl _) _)
theorem Bx.drewN (h : Bx w g t xs) (k : Nat) : Bx (w.drewN k) g t xs := h
theorem Bx.drew (h : Bx w g t xs) : Bx w.drew g t xs := h
theorem Bx.set1 (h : Bx w g t xs) (i : Nat) (u : Value) : Bx (w.setCell ⟨g, i, none⟩ u) g t (xs.setIfInBounds i u) := heap_setCell_same w g i _ t _ h
end
theorem below_drewN {B : Nat} {w w' : World} (h : Below B w w') (k : Nat) : Below B w (w'.drewN k) := ⟨h.os, h.tape, h.output, h.size, h.block⟩
theorem below_drew {B : Nat} {w w' : World} (h : Below B w w') : Below B w w'.drew := ⟨h.os, h.tape, h.output, h.size, h.block⟩

/-- What a walk asks of a box of 2. -/
structure St2 (w : World) (g : Nat) (a b : Value) : Prop where
  c0 : w.cell? ⟨g, 0, none⟩ = some a
  c1 : w.cell? ⟨g, 1, none⟩ = some b
  f0 : w.frozen? ⟨g, 0, none⟩ = false
  f1 : w.frozen? ⟨g, 1, none⟩ = false
  o1 : ∀ u0, (w.setCell ⟨g, 0, none⟩ u0).cell? ⟨g, 1, none⟩ = some b

theorem Bx.st2 {w : World} {g : Nat} {t : TypeId} {a b : Value} (h : Bx w g t #[a, b]) : St2 w g a b :=
  ⟨by rw [cell_of_row w g 0 _ t (0, 0) h]; rfl, by rw [cell_of_row w g 1 _ t (0, 0) h]; rfl, h.fz 0, h.fz 1, fun u0 => by rw [cell_of_row _ g 1 _ t (0, 0) (h.set1 0 u0)]; rfl⟩

theorem Bx.set2 {w : World} {g : Nat} {t : TypeId} {a b : Value} (h : Bx w g t #[a, b]) (x0 x1 : Value) : Bx ((w.setCell ⟨g, 0, none⟩ x0).setCell ⟨g, 1, none⟩ x1) g t #[x0, x1] := ((h.set1 0 x0).set1 1 x1)

theorem below_set2 {w w' : World} {B g : Nat} (h : Below B w w') (hg : B ≤ g) (x0 x1 : Value) : Below B w ((w'.setCell ⟨g, 0, none⟩ x0).setCell ⟨g, 1, none⟩ x1) := ((h.setCell (p := ⟨g, 0, none⟩) hg x0).setCell (p := ⟨g, 1, none⟩) hg x1)

theorem but_set2 (w : World) (g : Nat) (x0 x1 : Value) : But (fun i => i = g) w ((w.setCell ⟨g, 0, none⟩ x0).setCell ⟨g, 1, none⟩ x1) := (((But.refl (fun i => i = g) w).setCell (p := ⟨g, 0, none⟩) (fun _ => rfl) x0).setCell (p := ⟨g, 1, none⟩) (fun _ => rfl) x1)

/-- What a walk asks of a box of 3. -/
structure St3 (w : World) (g : Nat) (a b c : Value) : Prop where
  c0 : w.cell? ⟨g, 0, none⟩ = some a
  c1 : w.cell? ⟨g, 1, none⟩ = some b
  c2 : w.cell? ⟨g, 2, none⟩ = some c
  f0 : w.frozen? ⟨g, 0, none⟩ = false
  f1 : w.frozen? ⟨g, 1, none⟩ = false
  f2 : w.frozen? ⟨g, 2, none⟩ = false
  o1 : ∀ u0, (w.setCell ⟨g, 0, none⟩ u0).cell? ⟨g, 1, none⟩ = some b
  o2 : ∀ u0 u1, ((w.setCell ⟨g, 0, none⟩ u0).setCell ⟨g, 1, none⟩ u1).cell? ⟨g, 2, none⟩ = some c

theorem Bx.st3 {w : World} {g : Nat} {t : TypeId} {a b c : Value} (h : Bx w g t #[a, b, c]) : St3 w g a b c :=
  ⟨by rw [cell_of_row w g 0 _ t (0, 0) h]; rfl, by rw [cell_of_row w g 1 _ t (0, 0) h]; rfl, by rw [cell_of_row w g 2 _ t (0, 0) h]; rfl, h.fz 0, h.fz 1, h.fz 2, fun u0 => by rw [cell_of_row _ g 1 _ t (0, 0) (h.set1 0 u0)]; rfl, fun u0 u1 => by rw [cell_of_row _ g 2 _ t (0, 0) ((h.set1 0 u0).set1 1 u1)]; rfl⟩

theorem Bx.set3 {w : World} {g : Nat} {t : TypeId} {a b c : Value} (h : Bx w g t #[a, b, c]) (x0 x1 x2 : Value) : Bx (((w.setCell ⟨g, 0, none⟩ x0).setCell ⟨g, 1, none⟩ x1).setCell ⟨g, 2, none⟩ x2) g t #[x0, x1, x2] := (((h.set1 0 x0).set1 1 x1).set1 2 x2)

theorem below_set3 {w w' : World} {B g : Nat} (h : Below B w w') (hg : B ≤ g) (x0 x1 x2 : Value) : Below B w (((w'.setCell ⟨g, 0, none⟩ x0).setCell ⟨g, 1, none⟩ x1).setCell ⟨g, 2, none⟩ x2) := (((h.setCell (p := ⟨g, 0, none⟩) hg x0).setCell (p := ⟨g, 1, none⟩) hg x1).setCell (p := ⟨g, 2, none⟩) hg x2)

theorem but_set3 (w : World) (g : Nat) (x0 x1 x2 : Value) : But (fun i => i = g) w (((w.setCell ⟨g, 0, none⟩ x0).setCell ⟨g, 1, none⟩ x1).setCell ⟨g, 2, none⟩ x2) := ((((But.refl (fun i => i = g) w).setCell (p := ⟨g, 0, none⟩) (fun _ => rfl) x0).setCell (p := ⟨g, 1, none⟩) (fun _ => rfl) x1).setCell (p := ⟨g, 2, none⟩) (fun _ => rfl) x2)

/-- What a walk asks of a box of 4. -/
structure St4 (w : World) (g : Nat) (a b c d : Value) : Prop where
  c0 : w.cell? ⟨g, 0, none⟩ = some a
  c1 : w.cell? ⟨g, 1, none⟩ = some b
  c2 : w.cell? ⟨g, 2, none⟩ = some c
  c3 : w.cell? ⟨g, 3, none⟩ = some d
  f0 : w.frozen? ⟨g, 0, none⟩ = false
  f1 : w.frozen? ⟨g, 1, none⟩ = false
  f2 : w.frozen? ⟨g, 2, none⟩ = false
  f3 : w.frozen? ⟨g, 3, none⟩ = false
  o1 : ∀ u0, (w.setCell ⟨g, 0, none⟩ u0).cell? ⟨g, 1, none⟩ = some b
  o2 : ∀ u0 u1, ((w.setCell ⟨g, 0, none⟩ u0).setCell ⟨g, 1, none⟩ u1).cell? ⟨g, 2, none⟩ = some c
  o3 : ∀ u0 u1 u2, (((w.setCell ⟨g, 0, none⟩ u0).setCell ⟨g, 1, none⟩ u1).setCell ⟨g, 2, none⟩ u2).cell? ⟨g, 3, none⟩ = some d

theorem Bx.st4 {w : World} {g : Nat} {t : TypeId} {a b c d : Value} (h : Bx w g t #[a, b, c, d]) : St4 w g a b c d :=
  ⟨by rw [cell_of_row w g 0 _ t (0, 0) h]; rfl, by rw [cell_of_row w g 1 _ t (0, 0) h]; rfl, by rw [cell_of_row w g 2 _ t (0, 0) h]; rfl, by rw [cell_of_row w g 3 _ t (0, 0) h]; rfl, h.fz 0, h.fz 1, h.fz 2, h.fz 3, fun u0 => by rw [cell_of_row _ g 1 _ t (0, 0) (h.set1 0 u0)]; rfl, fun u0 u1 => by rw [cell_of_row _ g 2 _ t (0, 0) ((h.set1 0 u0).set1 1 u1)]; rfl, fun u0 u1 u2 => by rw [cell_of_row _ g 3 _ t (0, 0) (((h.set1 0 u0).set1 1 u1).set1 2 u2)]; rfl⟩

theorem Bx.set4 {w : World} {g : Nat} {t : TypeId} {a b c d : Value} (h : Bx w g t #[a, b, c, d]) (x0 x1 x2 x3 : Value) : Bx ((((w.setCell ⟨g, 0, none⟩ x0).setCell ⟨g, 1, none⟩ x1).setCell ⟨g, 2, none⟩ x2).setCell ⟨g, 3, none⟩ x3) g t #[x0, x1, x2, x3] := ((((h.set1 0 x0).set1 1 x1).set1 2 x2).set1 3 x3)

theorem below_set4 {w w' : World} {B g : Nat} (h : Below B w w') (hg : B ≤ g) (x0 x1 x2 x3 : Value) : Below B w ((((w'.setCell ⟨g, 0, none⟩ x0).setCell ⟨g, 1, none⟩ x1).setCell ⟨g, 2, none⟩ x2).setCell ⟨g, 3, none⟩ x3) := ((((h.setCell (p := ⟨g, 0, none⟩) hg x0).setCell (p := ⟨g, 1, none⟩) hg x1).setCell (p := ⟨g, 2, none⟩) hg x2).setCell (p := ⟨g, 3, none⟩) hg x3)

theorem but_set4 (w : World) (g : Nat) (x0 x1 x2 x3 : Value) : But (fun i => i = g) w ((((w.setCell ⟨g, 0, none⟩ x0).setCell ⟨g, 1, none⟩ x1).setCell ⟨g, 2, none⟩ x2).setCell ⟨g, 3, none⟩ x3) := (((((But.refl (fun i => i = g) w).setCell (p := ⟨g, 0, none⟩) (fun _ => rfl) x0).setCell (p := ⟨g, 1, none⟩) (fun _ => rfl) x1).setCell (p := ⟨g, 2, none⟩) (fun _ => rfl) x2).setCell (p := ⟨g, 3, none⟩) (fun _ => rfl) x3)

theorem held81 : Tryd.prog.stoodInHeld 81 = false := by kernel_rfl
theorem under81 : Tryd.prog.underlying 81 = some (.struct (Tryd.prog.fieldsOf 81)) := by kernel_rfl

theorem run_eql81 (x0 x1 y0 y1 : Int) (w : World) : (binOp .eql 81 (.agg #[.int .i64 x0, .int .i64 x1]) (.agg #[.int .i64 y0, .int .i64 y1])).run Tryd.prog w = .ok (.bool (decide (x0 = y0 ∧ x1 = y1))) w := by
  rw [run_eql_struct, run_equalIn_agg w 9999 81 _ _ under81 held81]
  have hs : ∀ w, (sizeOf 3).run Tryd.prog w = .ok 1 w := fun w => by kernel_rfl
  have hs2 : ∀ w, (sizeOf 22).run Tryd.prog w = .ok 1 w := fun w => by kernel_rfl
  have hu := Tryd.underlying3
  have hu2 := Tryd.underlying22
  rw [show (Tryd.prog.fieldsOf 81).toList = _ from rfl]
  simp [Op.eqFields, go_sem]
  by_cases h0 : x0 = y0 <;> by_cases h1 : x1 = y1 <;> simp [h0, h1]

theorem held24 : Tryd.prog.stoodInHeld 24 = false := by kernel_rfl
theorem under24 : Tryd.prog.underlying 24 = some (.struct (Tryd.prog.fieldsOf 24)) := by kernel_rfl

theorem run_eql24 (x0 x1 x2 x3 y0 y1 y2 y3 : Int) (w : World) : (binOp .eql 24 (.agg #[.int .i64 x0, .int .u64 x1, .int .i64 x2, .int .i64 x3]) (.agg #[.int .i64 y0, .int .u64 y1, .int .i64 y2, .int .i64 y3])).run Tryd.prog w = .ok (.bool (decide (x0 = y0 ∧ x1 = y1 ∧ x2 = y2 ∧ x3 = y3))) w := by
  rw [run_eql_struct, run_equalIn_agg w 9999 24 _ _ under24 held24]
  have hs : ∀ w, (sizeOf 3).run Tryd.prog w = .ok 1 w := fun w => by kernel_rfl
  have hs2 : ∀ w, (sizeOf 22).run Tryd.prog w = .ok 1 w := fun w => by kernel_rfl
  have hu := Tryd.underlying3
  have hu2 := Tryd.underlying22
  rw [show (Tryd.prog.fieldsOf 24).toList = _ from rfl]
  simp [Op.eqFields, go_sem]
  by_cases h0 : x0 = y0 <;> by_cases h1 : x1 = y1 <;> by_cases h2 : x2 = y2 <;> by_cases h3 : x3 = y3 <;> simp [h0, h1, h2, h3]

theorem run_neq24 (x0 x1 x2 x3 y0 y1 y2 y3 : Int) (w : World) : (binOp .neq 24 (.agg #[.int .i64 x0, .int .u64 x1, .int .i64 x2, .int .i64 x3]) (.agg #[.int .i64 y0, .int .u64 y1, .int .i64 y2, .int .i64 y3])).run Tryd.prog w = .ok (.bool (!decide (x0 = y0 ∧ x1 = y1 ∧ x2 = y2 ∧ x3 = y3))) w := by
  rw [run_neq_struct, run_equalIn_agg w 9999 24 _ _ under24 held24]
  have hs : ∀ w, (sizeOf 3).run Tryd.prog w = .ok 1 w := fun w => by kernel_rfl
  have hs2 : ∀ w, (sizeOf 22).run Tryd.prog w = .ok 1 w := fun w => by kernel_rfl
  have hu := Tryd.underlying3
  have hu2 := Tryd.underlying22
  rw [show (Tryd.prog.fieldsOf 24).toList = _ from rfl]
  simp [Op.eqFields, go_sem]
  by_cases h0 : x0 = y0 <;> by_cases h1 : x1 = y1 <;> by_cases h2 : x2 = y2 <;> by_cases h3 : x3 = y3 <;> simp [h0, h1, h2, h3]

theorem held36 : Tryd.prog.stoodInHeld 36 = false := by kernel_rfl
theorem under36 : Tryd.prog.underlying 36 = some (.struct (Tryd.prog.fieldsOf 36)) := by kernel_rfl

theorem run_eql36 (x0 x1 x2 x3 y0 y1 y2 y3 : Int) (w : World) : (binOp .eql 36 (.agg #[.int .i64 x0, .int .u64 x1, .int .i64 x2, .int .i64 x3]) (.agg #[.int .i64 y0, .int .u64 y1, .int .i64 y2, .int .i64 y3])).run Tryd.prog w = .ok (.bool (decide (x0 = y0 ∧ x1 = y1 ∧ x2 = y2 ∧ x3 = y3))) w := by
  rw [run_eql_struct, run_equalIn_agg w 9999 36 _ _ under36 held36]
  have hs : ∀ w, (sizeOf 3).run Tryd.prog w = .ok 1 w := fun w => by kernel_rfl
  have hs2 : ∀ w, (sizeOf 22).run Tryd.prog w = .ok 1 w := fun w => by kernel_rfl
  have hu := Tryd.underlying3
  have hu2 := Tryd.underlying22
  rw [show (Tryd.prog.fieldsOf 36).toList = _ from rfl]
  simp [Op.eqFields, go_sem]
  by_cases h0 : x0 = y0 <;> by_cases h1 : x1 = y1 <;> by_cases h2 : x2 = y2 <;> by_cases h3 : x3 = y3 <;> simp [h0, h1, h2, h3]


theorem zero81 : (Tryd.prog.info? 81).map (·.zero) = some (some (.agg #[.int .i64 0, .int .i64 0])) := by kernel_rfl
theorem zero24 : (Tryd.prog.info? 24).map (·.zero) = some (some (.agg #[.int .i64 0, .int .u64 0, .int .i64 0, .int .i64 0])) := by kernel_rfl
theorem zero36 : (Tryd.prog.info? 36).map (·.zero) = some (some (.agg #[.int .i64 0, .int .u64 0, .int .i64 0, .int .i64 0])) := by kernel_rfl

def isCnt (n : Int) : Bool := decide (0 ≤ n ∧ n ≤ 4096)
def isWin (a b : Int) : Bool := decide ((a = 64 ∧ b = 0) ∨ (0 ≤ a ∧ 0 ≤ b ∧ b < 64 - a))
def okSI (n a b : Int) : Bool := isCnt n && isWin a b

set_option maxHeartbeats 400000 in
theorem count_any (n : Int) (w : World) : Calls Tryd.prog 47 #[.int .i64 n] w fun e w' => e = .returned (.bool (isCnt n)) ∧ w' = w := by
  unfold isCnt
  by_cases h0 : 0 ≤ n
  · by_cases h1 : n ≤ 4096
    · go_enter Tryd.func47, Tryd.ntmps47
      go_wp2
      go_ret
      exact ⟨ret_bool (by simp; omega), rfl⟩
    · go_enter Tryd.func47, Tryd.ntmps47
      go_wp2
      go_ret
      exact ⟨ret_bool (by simp; omega), rfl⟩
  · go_enter Tryd.func47, Tryd.ntmps47
    go_wp2
    go_ret
    exact ⟨ret_bool (by simp; omega), rfl⟩

set_option maxHeartbeats 400000 in
theorem none_any (w : World) : Calls Tryd.prog 44 #[] w fun e w' => e = .returned (.agg #[.int .i64 64, .int .i64 0]) ∧ Below w.heap.size w w' := by
  have hz := zero81
  have XX := Bx.new w 81 #[.int .i64 0, .int .i64 0]
  have B0 : Hid (Below w.heap.size w (w.alloc (.cells #[.int .i64 0, .int .i64 0] 81))) := (Below.refl _ w).alloc (Nat.le_refl _) _
  have X2 := (XX.set2 (.int .i64 64) (.int .i64 0)).st2
  have b2 := hide (below_set2 B0.out (Nat.le_refl _) (.int .i64 64) (.int .i64 0))
  obtain ⟨p0, p1, p2, p3, p4⟩ := XX.st2
  have o0 := X2.c0
  have o1 := X2.c1
  go_enter Tryd.func44, Tryd.ntmps44
  go_wp2_with fail
  refine bodyPost_ret (v := .agg #[.int .i64 64, .int .i64 0]) (by simp [results, Tryd.f44, go_sem, o0, o1]) rfl ?_
  exact ⟨rfl, (Below.refl _ w).alloc (Nat.le_refl _) _⟩

set_option maxHeartbeats 400000 in
theorem windowOf_any (n L a b : Int) (w : World) : Calls Tryd.prog 50 #[.agg #[.int .i64 n, .int .u64 L, .int .i64 a, .int .i64 b]] w fun e w' => e = .returned (.agg #[.int .i64 a, .int .i64 b]) ∧ Below w.heap.size w w' := by
  have B0 : Hid (Below w.heap.size w (w.alloc (.cells #[.int .i64 n, .int .u64 L, .int .i64 a, .int .i64 b] 24))) := (Below.refl _ w).alloc (Nat.le_refl _) _
  have B1 := hide (B0.out.alloc B0.out.size (.cells #[.int .i64 0, .int .i64 0] 81))
  have XX := Bx.new_at (w := w.alloc (.cells #[.int .i64 n, .int .u64 L, .int .i64 a, .int .i64 b] 24)) (g := w.heap.size + 1) (by simp) 81 #[.int .i64 0, .int .i64 0]
  have X2 := (XX.set2 (.int .i64 a) (.int .i64 b)).st2
  have b2 := hide (below_set2 (g := w.heap.size + 1) B1.out (by omega) (.int .i64 a) (.int .i64 b))
  obtain ⟨p0, p1, p2, p3, p4⟩ := XX.st2
  have o0 := X2.c0
  have o1 := X2.c1
  go_enter Tryd.func50, Tryd.ntmps50
  go_wp2_with fail
  refine bodyPost_ret (v := .agg #[.int .i64 a, .int .i64 b]) (by simp [results, Tryd.f50, go_sem, o0, o1]) rfl ?_
  exact ⟨rfl, by first | exact b2.out | exact B1.out | exact B0.out.alloc B0.out.size _⟩

end Go.Proofs.YtmddkinecplooaaDoor
