/-
  works.
-/
import Derived.Test.YtbinnpadmajgpaaQ
import Derived.Test.YtbinnpadmajgpaaD
import Derived.Test.YtbinnpadmajgpaaK
namespace Go.Proofs.Ytbinnpadmajgpaa
open Go.RowKit Go.Shelf
set_option linter.unusedVariables false
set_option linter.unusedSimpArgs false
set_option maxRecDepth 100000

def exIn : List Tx := [[106, 111, 98], [97, 112, 105], [106, 111]]
def exT : List Tx := [[97, 112, 105], [106, 111], [106, 111, 98]]
theorem ex_asc : Asc exT := by unfold Asc exT; decide
theorem ex_mk : mk exIn = exT := asc_ext (mk_asc _) ex_asc (fun x => by
  rw [mem_mk]
  unfold exIn exT
  simp only [List.mem_cons, List.not_mem_nil, or_false]
  constructor
  · rintro (h | h | h)
    · exact .inr (.inr h)
    · exact .inl h
    · exact .inr (.inl h)
  · rintro (h | h | h)
    · exact .inr (.inl h)
    · exact .inr (.inr h)
    · exact .inl h)
theorem ex_ok : OkL exIn := ⟨by unfold exIn; simp, by rw [ex_mk]; unfold exT; simp⟩
theorem ex_bytes : tabB exT = [3, 0, 3, 97, 112, 105, 0, 2, 106, 111, 2, 1, 98] := by
  rfl
theorem ex_row (w : World) : HasS (w.alloc (.cells #[.string { data := #[106, 111, 98] }, .string { data := #[97, 112, 105] }, .string { data := #[106, 111] }] 9)) (some ⟨w.heap.size, 0, none⟩) 3 3 exIn := by
  refine ⟨rfl, Nat.le_refl _, by unfold maxLen; omega, .inr ⟨_, _, rfl⟩, fun i hi => ⟨_, _, rfl, by simp, ?_⟩⟩
  rw [cell_of_row _ w.heap.size (0 + i) _ _ _ (heap_alloc_new w _)]
  match i, hi with
  | 0, _ => rfl
  | 1, _ => rfl
  | 2, _ => rfl
set_option maxHeartbeats 4000000 in
theorem works_any (w : World) : Calls Try.prog 6 #[] w fun e w' => e = .returned (.bool true) ∧ Below w.heap.size w w' := by
  have B0 : Below w.heap.size w (w.alloc (.cells #[.string { data := #[106, 111, 98] }, .string { data := #[97, 112, 105] }, .string { data := #[106, 111] }] 9)) := (Below.refl _ w).alloc (Nat.le_refl _) _
  have MK := hide (make_ok _ _ 3 3 exIn (ex_row w) (by omega) ex_ok)
  rw [ex_mk] at MK
  obtain ⟨W0, hW0⟩ : ∃ W0, w.alloc (.cells #[.string { data := #[106, 111, 98] }, .string { data := #[97, 112, 105] }, .string { data := #[106, 111] }] 9) = W0 := ⟨_, rfl⟩
  rw [hW0] at B0 MK
  replace hW0 := hide hW0
  replace B0 := hide B0
  go_enter Try.func6, Try.ntmps6
  go_wp2_with fail
  rw [hW0.out]
  refine MK.out.mono ?_
  rintro e w1 ⟨v, rfl, ⟨a, n, c, rfl, H1⟩, B1⟩
  obtain rfl : n = 3 := H1.hlen.symm
  have N1 := hide (B0.out.trans (B1.mono B0.out.size))
  have C1 : Below w1.heap.size w1 (w1.alloc (.cells #[.slice (some a) 3 c] 27)) := (Below.refl _ _).alloc (Nat.le_refl _) _
  have H2 := H1.kept C1 (Nat.le_refl _)
  have q2 : (w1.alloc (.cells #[.slice (some a) 3 c] 27)).cell? ⟨w1.heap.size, 0, none⟩ = some (.slice (some a) 3 c) := by simp
  have z2 : (w1.alloc (.cells #[.slice (some a) 3 c] 27)).heap.size = w1.heap.size + 1 := by simp
  obtain ⟨w2, hw2⟩ : ∃ w2, w1.alloc (.cells #[.slice (some a) 3 c] 27) = w2 := ⟨_, rfl⟩
  rw [hw2] at C1 H2 q2 z2
  have N2 := hide (N1.out.trans (C1.mono N1.out.size))
  have GE := hide (get_any a 3 c exT 1 w2 H2 (by omega) (by omega))
  change Hid (Calls Try.prog 14 #[.agg #[.slice (some a) 3 c], .int .i64 1] w2 fun e w' => e = .returned (.tuple #[.string { data := #[106, 111] }, .int .i64 0]) ∧ Below w2.heap.size w2 w') at GE
  replace H2 := hide H2
  replace z2 := hide z2
  clear H1 B1 MK C1
  go_wp2_with fail
  refine GE.out.mono ?_
  rintro e w3 ⟨rfl, B3⟩
  have H3 := H2.out.kept B3 (Nat.le_refl _)
  have q3 := (B3.cell (p := ⟨w1.heap.size, 0, none⟩) (show w1.heap.size < _ by have := z2.out; omega)).trans q2
  have z3 := hide (show w1.heap.size < w3.heap.size by have := z2.out; have := B3.size; omega)
  have N3 := hide (N2.out.trans (B3.mono N2.out.size))
  have FI := hide (find_any a 3 c exT 2 w3 H3 (by omega) ex_asc (by omega))
  change Hid (Calls Try.prog 15 #[.agg #[.slice (some a) 3 c], .string { data := #[106, 111, 98] }] w3 fun e w' => e = .returned (.tuple #[.int .i64 2, .bool true]) ∧ Below w3.heap.size w3 w') at FI
  replace H3 := hide H3
  clear GE B3 q2
  go_wp2_with fail
  refine FI.out.mono ?_
  rintro e w4 ⟨rfl, B4⟩
  have H4 := H3.out.kept B4 (Nat.le_refl _)
  have q4 := (B4.cell (p := ⟨w1.heap.size, 0, none⟩) z3.out).trans q3
  have N4 := hide (N3.out.trans (B4.mono N3.out.size))
  have BY := hide (bytes_any a 3 c exT w4 H4 (by unfold exT; simp) (by omega))
  rw [ex_bytes] at BY
  replace H4 := hide H4
  clear FI B4 q3
  have k1 : ((⟨#[106, 111]⟩ : ByteArray).toList == (⟨#[106, 111]⟩ : ByteArray).toList) = true := by simp
  go_wp2_with fail
  refine BY.out.mono ?_
  rintro e w5 ⟨a5, n5, c5, rfl, H5, B5⟩
  have N5 := hide (N4.out.trans (B5.mono N4.out.size))
  have B6 : Below w5.heap.size w5 (w5.alloc (.cells (([3, 0, 3, 97, 112, 105, 0, 2, 106, 111, 2, 1, 98] : List Int).map (Value.int .u8)).toArray 5)) := (Below.refl _ _).alloc (Nat.le_refl _) _
  have SA := hide (V.same_any _ a5 (some ⟨w5.heap.size, 0, none⟩) n5 13 c5 13 [3, 0, 3, 97, 112, 105, 0, 2, 106, 111, 2, 1, 98] [3, 0, 3, 97, 112, 105, 0, 2, 106, 111, 2, 1, 98] (H5.kept B6 (Nat.le_refl _)) (V.has_lit w5 [3, 0, 3, 97, 112, 105, 0, 2, 106, 111, 2, 1, 98] (by simp) (by simp [maxLen])))
  have N6 := hide (N5.out.trans (B6.mono N5.out.size))
  simp only [List.map_cons, List.map_nil] at SA N6
  replace H5 := hide H5
  clear B5 B6
  go_wp2_with fail
  refine SA.out.mono ?_
  rintro e w6 ⟨rfl, rfl⟩
  go_wp2_with fail
  go_ret
  exact ⟨rfl, N6.out⟩
end Go.Proofs.Ytbinnpadmajgpaa
