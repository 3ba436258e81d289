/-
  Text of works' two labels.
-/
import Derived.Test.YtlmpndmceiihaaaU
namespace Go.Proofs.Ytlmpndmceiihaaa
open Go.RowKit Go.Shelf Go.Lib
set_option linter.unusedVariables false
set_option linter.unusedSimpArgs false

theorem info9 : (Try.prog.info? 9).map (fun i => (i.zero, i.size, i.bytes)) = some (some (.string ByteArray.empty), 1, 16) := by kernel_rfl
theorem make_two (w : World) : (Instr.makeSlice 50 (.int .i64 2) (.int .i64 2)).run Try.prog w = .ok (.slice (some ⟨w.heap.size, 0, none⟩) 2 2) (w.alloc (.cells #[.string ByteArray.empty, .string ByteArray.empty] 9)) := by
  cases hi : Try.prog.info? 9 with
  | none => have := info9; rw [hi] at this; cases this
  | some i =>
    have h9 := info9
    rw [hi] at h9
    simp at h9
    obtain ⟨z, s, b⟩ := h9
    have e := run_makeSlice (P := Try.prog) w 50 9 i _ Try.underlying50 hi z .i64 .i64 2 2 (by omega) (by omega) (by rw [s]; decide) (by rw [b]; decide) (by omega)
    rw [s, show madeCells (Value.string ByteArray.empty).cells (Int.toNat 2 * 1) = #[Value.string ByteArray.empty, Value.string ByteArray.empty] by kernel_rfl] at e
    exact e
theorem row2_set0 {W : World} {g : Nat} {u v x : Value} {t : TypeId} (h : W.heap[g]? = some (.cells #[u, v] t (0, 0))) : (W.setCell ⟨g, 0, none⟩ x).heap[g]? = some (.cells #[x, v] t (0, 0)) := by
  simp [World.setCell, Array.getElem?_modify, h]
theorem row2_set1 {W : World} {g : Nat} {u v x : Value} {t : TypeId} (h : W.heap[g]? = some (.cells #[u, v] t (0, 0))) : (W.setCell ⟨g, 1, none⟩ x).heap[g]? = some (.cells #[u, x] t (0, 0)) := by
  simp [World.setCell, Array.getElem?_modify, h]
theorem row2_frozen {W : World} {g i : Nat} {u v : Value} {t : TypeId} (h : W.heap[g]? = some (.cells #[u, v] t (0, 0))) : W.frozen? ⟨g, i, none⟩ = false := by simp [World.frozen?, h]
theorem catA : sA ++ (⟨#[61]⟩ : Str) ++ n1 = tA := by decide +kernel
theorem catB : sB ++ (⟨#[61]⟩ : Str) ++ n3 = tB := by decide +kernel
set_option maxHeartbeats 2000000 in
theorem text_two (w : World) (a : Option Addr) (cap : Nat) (h : HasB w a 2 cap [(sA, n1), (sB, n3)]) :
    Calls Try.prog 11 #[.slice a 2 cap] w fun e w' => e = .returned (.string tAB) ∧ Below w.heap.size w w' := by
  obtain ⟨b, off, rfl, hbl, hcl⟩ := h.cells (by omega)
  have a0 : w.cell? ⟨b, off, none⟩ = some (.string sA) := by have := (hcl 0 (by omega)).1; simpa using this
  have a1 : w.cell? ⟨b, off + 1, none⟩ = some (.string n1) := by have := (hcl 0 (by omega)).2; simpa using this
  have a2 : w.cell? ⟨b, off + 2, none⟩ = some (.string sB) := by have := (hcl 1 (by omega)).1; simpa using this
  have a3 : w.cell? ⟨b, off + 3, none⟩ = some (.string n3) := by have := (hcl 1 (by omega)).2; simpa using this
  clear h hcl
  have hmk := make_two w
  go_enter Try.func11, Try.ntmps11
  go_wp2
  go_loopw [11] (fun i wr => (i = .int .i64 0 ∧ Hid (wr.heap[w.heap.size]? = some (.cells #[.string ByteArray.empty, .string ByteArray.empty] 9 (0, 0))) ∧ Hid (Below w.heap.size w wr)) ∨ (i = .int .i64 1 ∧ Hid (wr.heap[w.heap.size]? = some (.cells #[.string tA, .string ByteArray.empty] 9 (0, 0))) ∧ Hid (Below w.heap.size w wr)) ∨ (i = .int .i64 2 ∧ Hid (wr.heap[w.heap.size]? = some (.cells #[.string tA, .string tB] 9 (0, 0))) ∧ Hid (Below w.heap.size w wr))) (fun i _ => 2 - (intOf i).toNat)
  case atStart => exact .inl ⟨rfl, heap_alloc_new w _, (Below.refl _ w).alloc (Nat.le_refl _) _⟩
  case round =>
    rcases hrel with ⟨rfl, hR, hB⟩ | ⟨rfl, hR, hB⟩ | ⟨rfl, hR, hB⟩
    · have hsz := hB.out.size
      have c0 : wr.cell? ⟨b, off, none⟩ = some (.string sA) := (hB.out.cell (p := ⟨b, off, none⟩) hbl).trans a0
      have c1 : wr.cell? ⟨b, off + 1, none⟩ = some (.string n1) := (hB.out.cell (p := ⟨b, off + 1, none⟩) hbl).trans a1
      have hlt : w.heap.size < wr.heap.size := (Array.getElem?_eq_some_iff.1 hR.out).1
      have R6 := (Below.heap_alloc wr (.cells #[.string sA, .string n1] 38) w.heap.size hlt).trans hR.out
      have z0 := (pair_cells R6).1
      have zf := row2_frozen (i := 0) R6
      have R7 : Hid (((wr.setCell ⟨w.heap.size, 0, none⟩ (.string tA)).alloc (.cells #[.string sA, .string n1] 38)).heap[w.heap.size]? = some (.cells #[.string tA, .string ByteArray.empty] 9 (0, 0))) := (Below.heap_alloc _ _ _ (by rw [World.size_setCell]; exact hlt)).trans (row2_set0 hR.out)
      have B7 : Hid (Below w.heap.size w ((wr.setCell ⟨w.heap.size, 0, none⟩ (.string tA)).alloc (.cells #[.string sA, .string n1] 38))) := (hB.out.setCell (p := ⟨w.heap.size, 0, none⟩) (Nat.le_refl _) _).alloc (by rw [World.size_setCell]; exact hsz) _
      have hcat := catA
      clear R6 a0 a1 a2 a3
      go_wp2
      go_roundw
      case rel => exact .inr (.inl ⟨rfl, R7, B7⟩)
      case measure => simp [intOf]
    · have hsz := hB.out.size
      have c0 : wr.cell? ⟨b, off + 2, none⟩ = some (.string sB) := (hB.out.cell (p := ⟨b, off + 2, none⟩) hbl).trans a2
      have c1 : wr.cell? ⟨b, off + 3, none⟩ = some (.string n3) := (hB.out.cell (p := ⟨b, off + 3, none⟩) hbl).trans a3
      have hlt : w.heap.size < wr.heap.size := (Array.getElem?_eq_some_iff.1 hR.out).1
      have R6 := (Below.heap_alloc wr (.cells #[.string sB, .string n3] 38) w.heap.size hlt).trans hR.out
      have z0 := (pair_cells R6).2
      have zf := row2_frozen (i := 1) R6
      have R7 : Hid (((wr.setCell ⟨w.heap.size, 1, none⟩ (.string tB)).alloc (.cells #[.string sB, .string n3] 38)).heap[w.heap.size]? = some (.cells #[.string tA, .string tB] 9 (0, 0))) := (Below.heap_alloc _ _ _ (by rw [World.size_setCell]; exact hlt)).trans (row2_set1 hR.out)
      have B7 : Hid (Below w.heap.size w ((wr.setCell ⟨w.heap.size, 1, none⟩ (.string tB)).alloc (.cells #[.string sB, .string n3] 38))) := (hB.out.setCell (p := ⟨w.heap.size, 1, none⟩) (Nat.le_refl _) _).alloc (by rw [World.size_setCell]; exact hsz) _
      have hcat := catB
      clear R6 a0 a1 a2 a3
      go_wp2
      go_roundw
      case rel => exact .inr (.inr ⟨rfl, R7, B7⟩)
      case measure => simp [intOf]
    · have hlt : w.heap.size < wr.heap.size := (Array.getElem?_eq_some_iff.1 hR.out).1
      have z := pair_cells hR.out
      have hj := hide (join_any w.heap.size 0 2 [tA, tB] ⟨#[44]⟩ wr (fun j x hx => by
        match j, hx with
        | 0, hx => cases hx; exact z.1
        | 1, hx => cases hx; exact z.2
        | (n + 2), hx => simp at hx) hlt (by simp) (by simp) join_two_len)
      clear z a0 a1 a2 a3
      go_wp2_with (go_at_call 21; refine hj.out.mono ?_; rintro e W5 ⟨rfl, B5⟩; replace B5 := hide B5)
      go_ret
      exact ⟨congrArg (fun s => Ending.returned (Value.string s)) join_two, hB.out.trans (B5.out.mono (Nat.le_of_lt hlt))⟩
end Go.Proofs.Ytlmpndmceiihaaa
