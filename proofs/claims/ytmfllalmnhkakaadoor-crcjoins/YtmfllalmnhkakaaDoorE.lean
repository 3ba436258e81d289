/-
  Arrays in memory; a sum's bytes: split, Put and the reference's.
-/
import Derived.Test.YtmfllalmnhkakaaDoorD
import Derived.Laws.Tables
namespace Go.Proofs.YtmfllalmnhkakaaDoor
open Go.RowKit
set_option linter.unusedVariables false

/-- An array of n numbers. -/
def arr (t : IntKind) (n : Nat) (f : Nat → Nat) : Array Value := ((List.range n).map (fun j => Value.int t ((f j : Nat) : Int))).toArray
theorem arr_size (t : IntKind) (n : Nat) (f : Nat → Nat) : (arr t n f).size = n := by simp [arr]
theorem arr_get (t : IntKind) (n : Nat) (f : Nat → Nat) (j : Nat) (h : j < n) : (arr t n f)[j]? = some (.int t ((f j : Nat) : Int)) := by simp [arr, h]
theorem arr_set (t : IntKind) (n : Nat) (f : Nat → Nat) (k v : Nat) : (arr t n f).setIfInBounds k (.int t (v : Int)) = arr t n (fun j => if j = k then v else f j) := by
  apply Array.ext
  · simp [arr]
  · intro i h1 h2
    simp only [arr, List.size_toArray, List.length_map, List.length_range] at h2
    by_cases h : k = i
    · subst h; simp [arr]
    · have h' : ¬ i = k := fun e => h e.symm
      simp [arr, h, h']
theorem arr_one (t : IntKind) (n : Nat) (f : Nat → Nat) : (arr t n f).all (·.oneCell') = true := by
  rw [Array.all_eq_true_iff_forall_mem]
  intro v hv
  simp [arr] at hv
  obtain ⟨j, _, rfl⟩ := hv
  rfl
theorem arr_congr (t : IntKind) (n : Nat) {f g : Nat → Nat} (h : ∀ j, j < n → f j = g j) : arr t n f = arr t n g := by
  apply Array.ext
  · simp [arr]
  · intro i h1 h2
    simp only [arr, List.size_toArray, List.length_map, List.length_range] at h2
    simp [arr, h i h2]
/-- The block g has this array. -/
def Arr (w : World) (g : Nat) (ty : TypeId) (t : IntKind) (n : Nat) (f : Nat → Nat) : Prop := w.heap[g]? = some (.cells (arr t n f) ty (0, 0))
theorem Arr.cell {w : World} {g : Nat} {ty : TypeId} {t : IntKind} {n : Nat} {f : Nat → Nat} (h : Arr w g ty t n f) (j : Nat) (hj : j < n) : w.cell? ⟨g, j, none⟩ = some (.int t ((f j : Nat) : Int)) := by
  rw [cell_of_row w g j _ ty (0, 0) h]; exact arr_get t n f j hj
theorem Arr.frozen {w : World} {g : Nat} {ty : TypeId} {t : IntKind} {n : Nat} {f : Nat → Nat} (h : Arr w g ty t n f) (j : Nat) : w.frozen? ⟨g, j, none⟩ = false := frozen_of_row w g j _ ty h
theorem Arr.set {w : World} {g : Nat} {ty : TypeId} {t : IntKind} {n : Nat} {f : Nat → Nat} (h : Arr w g ty t n f) (k v : Nat) : Arr (w.setCell ⟨g, k, none⟩ (.int t (v : Int))) g ty t n (fun j => if j = k then v else f j) := by
  have := heap_setCell_same w g k _ ty (.int t (v : Int)) h
  rwa [arr_set] at this
theorem Arr.other {w : World} {g : Nat} {ty : TypeId} {t : IntKind} {n : Nat} {f : Nat → Nat} (h : Arr w g ty t n f) (a : Addr) (v : Value) (hne : g ≠ a.block) : Arr (w.setCell a v) g ty t n f := (heap_setCell_other w a g v hne).trans h
theorem Arr.alloc {w : World} {g : Nat} {ty : TypeId} {t : IntKind} {n : Nat} {f : Nat → Nat} (h : Arr w g ty t n f) (o : Obj) : Arr (w.alloc o) g ty t n f := (heap_alloc_old w o g (Array.getElem?_eq_some_iff.1 h).1).trans h
theorem Arr.lt {w : World} {g : Nat} {ty : TypeId} {t : IntKind} {n : Nat} {f : Nat → Nat} (h : Arr w g ty t n f) : g < w.heap.size := (Array.getElem?_eq_some_iff.1 h).1
theorem arr_new (w : World) (ty : TypeId) (t : IntKind) (n : Nat) (f : Nat → Nat) : Arr (w.alloc (.cells (arr t n f) ty)) w.heap.size ty t n f := heap_alloc_new w _
theorem Arr.setRow {w : World} {g : Nat} {ty : TypeId} {t : IntKind} {n : Nat} {f : Nat → Nat} (h : Arr w g ty t n f) (f' : Nat → Nat) : Arr (w.setRow g (arr t n f')) g ty t n f' := setRow_heap w g _ _ ty _ h
theorem Arr.setRow_other {w : World} {g g' : Nat} {ty : TypeId} {t : IntKind} {n : Nat} {f : Nat → Nat} (h : Arr w g ty t n f) (cs : Array Value) (hne : g ≠ g') : Arr (w.setRow g' cs) g ty t n f := (Go.setRow_other w g' g cs hne).trans h
theorem Arr.kept {w w' : World} {B g : Nat} {ty : TypeId} {t : IntKind} {n : Nat} {f : Nat → Nat} (h : Arr w g ty t n f) (hb : Below B w w') (hg : g < B) : Arr w' g ty t n f := (hb.block g hg).trans h
theorem arr4 (a b c d : Nat) : (#[.int .u8 (a : Int), .int .u8 (b : Int), .int .u8 (c : Int), .int .u8 (d : Int)] : Array Value) = arr .u8 4 (fun j => if j = 0 then a else if j = 1 then b else if j = 2 then c else d) := rfl
theorem info47 : (Tryd.prog.info? 47).map (·.size) = some 4 := by kernel_rfl
theorem below_setRow {B : Nat} {w w' : World} {g : Nat} (h : Below B w w') (hg : B ≤ g) (cs : Array Value) : Below B w (w'.setRow g cs) :=
  ⟨h.os, h.tape, h.output, by rw [size_setRow]; exact h.size, fun k hk => (Go.setRow_other w' g k cs (by omega)).trans (h.block k hk)⟩

/-- The bytes of a sum. -/
def byteOf (s k : Nat) : Nat := s / 2 ^ (8 * k) % 256
theorem byte_cast (s k : Nat) : (s : Int) / 2 ^ (8 * k) % 256 = ((byteOf s k : Nat) : Int) := by
  unfold byteOf; simp [Int.natCast_ediv, Int.natCast_pow]
theorem byte_lt (s k : Nat) : byteOf s k < 256 := Nat.mod_lt _ (by decide)
def sumBytes (s : Nat) : List Int := [(byteOf s 0 : Nat), (byteOf s 1 : Nat), (byteOf s 2 : Nat), (byteOf s 3 : Nat)]

set_option maxHeartbeats 1000000 in
theorem split_any (s : Nat) (hs : s < 4294967296) (w : World) :
    Calls Tryd.prog 29 #[.int .u32 (s : Int)] w fun e w' => e = .returned (.agg (arr .u8 4 (byteOf s))) ∧ Below w.heap.size w w' := by
  go_enter Tryd.func29, Tryd.ntmps29
  go_wp2
  go_loopw [5] (fun i wr => ∃ (k : Nat) (f : Nat → Nat), k ≤ 4 ∧ i = .int .i64 k ∧ Below w.heap.size w wr ∧ Arr wr w.heap.size 47 .u8 4 (fun _ => 0) ∧ Arr wr (w.heap.size + 1) 47 .u8 4 f ∧ Hid (∀ j, j < k → f j = byteOf s j)) (fun i _ => 4 - (intOf i).toNat)
  case atStart =>
    refine ⟨0, fun _ => 0, by omega, rfl, ((Below.refl _ _).alloc (Nat.le_refl _) _).alloc (by simp) _, (arr_new w 47 .u8 4 (fun _ => 0)).alloc _, ?_, fun j hj => by omega⟩
    have := arr_new (w.alloc (.cells (arr .u8 4 (fun _ => 0)) 47)) 47 .u8 4 (fun _ => 0)
    rw [World.size_alloc] at this
    exact this
  case round =>
    obtain ⟨k, f, hk, rfl, hB, hA, hC, hf⟩ := hrel
    by_cases hk4 : k < 4
    · have c1 := hC.cell k hk4
      have c2 := hC.frozen k
      go_wp2
      rw [byte_cast]
      go_roundw
      case rel =>
        refine ⟨k + 1, fun j => if j = k then byteOf s k else f j, by omega, by go_num, hB.setCell (p := ⟨w.heap.size + 1, k, none⟩) (by show w.heap.size ≤ w.heap.size + 1; omega) _, hA.other _ _ (by show w.heap.size ≠ w.heap.size + 1; omega), hC.set k _, fun j hj => ?_⟩
        by_cases e : j = k
        · subst e; simp
        · simp only [e, if_false]; exact hf.out j (by omega)
      case measure => simp [intOf]; omega
    · obtain rfl : k = 4 := by omega
      have hC' : Arr wr (w.heap.size + 1) 47 .u8 4 (byteOf s) := by
        unfold Arr; rw [← arr_congr .u8 4 hf.out]; exact hC
      go_wp2_with (first
        | (refine wpList_load_row rfl 47 (.tmp 3) rfl (w.heap.size + 1) rfl 47 _ (0, 0) _ hC' Tryd.underlying47 rfl (by rw [arr_size]; exact info47) ?_)
        | (refine wpList_store_row rfl 47 (.tmp 2) (.tmp 16) rfl w.heap.size _ rfl rfl 47 _ hA (by rw [arr_size]; exact info47) (by rw [arr_size, arr_size]) (arr_one _ _ _) ?_))
      refine bodyPost_ret (results_cell_row (P := Tryd.prog) rfl _ _ w.heap.size 47 _ (0, 0) _ rfl (hA.setRow _) Tryd.underlying47 rfl (by rw [arr_size]; exact info47)) rfl ?_
      exact ⟨rfl, below_setRow hB (Nat.le_refl _) _⟩
end Go.Proofs.YtmfllalmnhkakaaDoor
