/-
  partOf; a part's bytes.
-/
import Derived.Test.YtbinnpadmajgpaaG
import Derived.Laws.IdiomStrings
import Derived.Deep.RegionHeld3
namespace Go.Proofs.Ytbinnpadmajgpaa
open Go.RowKit Go.Shelf Go.Lib
set_option linter.unusedVariables false
set_option linter.unusedSimpArgs false
set_option maxRecDepth 100000

theorem nums_num (s : Tx) : V.nums ⟨s.toArray⟩ = num s := rfl
theorem str_bytes (w : World) (s : Tx) (hs : s.length ≤ 100000) : ∃ c w', (convert 9 23 (.string ⟨s.toArray⟩)).run Try.prog w = .ok (.slice (some ⟨w.heap.size, 0, none⟩) s.length c) w' ∧ V.Has w' (some ⟨w.heap.size, 0, none⟩) s.length c (num s) ∧ Below w.heap.size w w' := by
  refine ⟨_, _, run_bytes_of_string w 9 23 5 ⟨s.toArray⟩ Try.underlying9 Try.underlying23 Try.underlying5, ⟨num_len s, ?_, ?_, (fun e => nomatch e), (fun _ => ⟨w.heap.size, 0, rfl, by simp, fun i hi => ?_⟩), num_bytes s⟩, ((Below.refl _ w).drew).alloc (Nat.le_refl _) _⟩
  · exact grownCap_ge w _ _ _
  · exact grownCap_le_maxLen w _ _ _ (by rw [str_size]; unfold maxLen; omega)
  · unfold World.cell?
    simp only [Nat.zero_add]
    rw [show (w.drew.alloc (Obj.cells (bytesRow ⟨s.toArray⟩ (grownCap w (⟨s.toArray⟩ : ByteArray).size 0 5)) 5 ((bytesRow ⟨s.toArray⟩ (grownCap w (⟨s.toArray⟩ : ByteArray).size 0 5)).size, (bytesRow ⟨s.toArray⟩ (grownCap w (⟨s.toArray⟩ : ByteArray).size 0 5)).size + 1))).heap[w.heap.size]? = some _ from heap_alloc_new w.drew _]
    simp [bytesRow, Array.getElem?_append, hi, num, List.getD]
theorem str_cut (s : Tx) (i j : Nat) : (⟨s.toArray⟩ : ByteArray).extract i j = ⟨((s.drop i).take (j - i)).toArray⟩ := by
  apply ByteArray.ext
  rw [ByteArray.data_extract]
  apply Array.toList_inj.1
  simp [Array.toList_extract, List.extract_eq_take_drop]
theorem V.Has.far {w : World} {g : Nat} {n c : Nat} {l : List Int} {p : Addr} (h : V.Has w (some ⟨g, 0, none⟩) n c l) (hp : p.block ≠ g) (v : Value) : V.Has (w.setCell p v) (some ⟨g, 0, none⟩) n c l :=
  ⟨h.hlen, h.le, h.capb, h.nil, fun h0 => by
    obtain ⟨b, off, e1, e2, e3⟩ := h.cells h0
    cases e1
    exact ⟨_, _, rfl, by simpa [World.setCell] using e2, fun i hi => by rw [World.cell?_setCell_far _ _ _ _ hp]; exact e3 i hi⟩, h.bytes⟩
/-- A box of a part. -/
theorem box55 (w : World) (k : Int) (v : Value) : (w.alloc (.cells #[.int .u64 k, v] 55)).cell? ⟨w.heap.size, 0, none⟩ = some (.int .u64 k) ∧ (w.alloc (.cells #[.int .u64 k, v] 55)).cell? ⟨w.heap.size, 1, none⟩ = some v ∧ (∀ i, (w.alloc (.cells #[.int .u64 k, v] 55)).frozen? ⟨w.heap.size, i, none⟩ = false) := ⟨by simp, by simp, fun i => by simp⟩
set_option maxHeartbeats 1000000 in
theorem partOf_any (x y : Tx) (w : World) (hx : x.length ≤ 100000) (hy : y.length ≤ 100000) : Calls Try.prog 24 #[encStr x, encStr y] w fun e w' => ∃ a n c, e = .returned (.agg #[.int .u64 (cmn x y : Nat), .slice a n c]) ∧ V.Has w' a n c (num (y.drop (cmn x y))) ∧ Below w.heap.size w w' := by
  have B0 : Below w.heap.size w (w.alloc (.cells #[.int .u64 0, .slice none 0 0] 55)) := (Below.refl _ w).alloc (Nat.le_refl _) _
  obtain ⟨b0, b1, fz⟩ := box55 w 0 (.slice none 0 0)
  have z0 : w.heap.size < (w.alloc (.cells #[.int .u64 0, .slice none 0 0] 55)).heap.size := by simp
  generalize hW0 : w.alloc (.cells #[.int .u64 0, .slice none 0 0] 55) = W0 at *
  have HC := hide (common_any x y W0 (by omega) (by omega))
  obtain ⟨q, hq⟩ : ∃ q, cmn x y = q := ⟨_, rfl⟩
  have hql := (cmn_le x y).2
  rw [hq] at HC hql ⊢
  obtain ⟨m, hm⟩ : ∃ m, y.length = m := ⟨_, rfl⟩
  have sy : (⟨y.toArray⟩ : ByteArray).size = m := by rw [str_size, hm]
  have q1 : q ≤ m := by omega
  have q2 : q ≤ 100000 := by omega
  have q3 : m ≤ 100000 := by omega
  have ecut := str_cut y q m
  rw [List.take_of_length_le (by rw [List.length_drop]; omega)] at ecut
  have hdl : (y.drop q).length ≤ 100000 := by rw [List.length_drop]; omega
  replace B0 := hide B0
  replace hm := hide hm
  replace hq := hide hq
  clear hx hy hql
  go_enter Try.func24, Try.ntmps24
  go_wp2_with fail
  refine HC.out.mono ?_
  rintro e w1 ⟨rfl, B1⟩
  obtain ⟨c, w2, hr, hH, B2⟩ := str_bytes w1 (y.drop q) hdl
  rw [← ecut] at hr
  have hx := hide (B0.out.trans ((B1.trans (B2.mono B1.size)).mono B0.out.size))
  have hb := (B1.trans (B2.mono B1.size))
  have c0 := (hb.cell (p := ⟨w.heap.size, 0, none⟩) z0).trans b0
  have c1 := (hb.cell (p := ⟨w.heap.size, 1, none⟩) z0).trans b1
  have f0 := (hb.frozen (p := ⟨w.heap.size, 0, none⟩) z0).trans (fz 0)
  have f1 := (hb.frozen (p := ⟨w.heap.size, 1, none⟩) z0).trans (fz 1)
  have hsz := hide (show w.heap.size < w1.heap.size from Nat.lt_of_lt_of_le z0 B1.size)
  replace hH := hide hH
  replace ecut := hide ecut
  clear b0 b1 fz z0 HC B1 B2 hb hW0
  go_wp2_with fail
  obtain ⟨u, hu⟩ : ∃ u, Value.slice (some ⟨w1.heap.size, 0, none⟩) (y.length - q) c = u := ⟨_, rfl⟩
  have o1 : ((w2.setCell ⟨w.heap.size, 0, none⟩ (.int .u64 (q : Int))).setCell ⟨w.heap.size, 1, none⟩ u).cell? ⟨w.heap.size, 1, none⟩ = some u := World.cell?_setCell_same' _ _ _ (by rw [World.cell?_setCell_other _ _ _ _ (by simp), c1]; rfl)
  have o0 : ((w2.setCell ⟨w.heap.size, 0, none⟩ (.int .u64 (q : Int))).setCell ⟨w.heap.size, 1, none⟩ u).cell? ⟨w.heap.size, 0, none⟩ = some (.int .u64 (q : Int)) := by
    rw [World.cell?_setCell_other _ _ _ _ (by simp)]
    exact World.cell?_setCell_same' _ _ _ (by rw [c0]; rfl)
  have hne := hsz.out
  have hH' := (hH.out.far (p := ⟨w.heap.size, 0, none⟩) (show w.heap.size ≠ w1.heap.size by omega) (.int .u64 (q : Int))).far (p := ⟨w.heap.size, 1, none⟩) (show w.heap.size ≠ w1.heap.size by omega) u
  rw [List.length_drop] at hH'
  rw [hu]
  refine bodyPost_ret (v := .agg #[.int .u64 (q : Int), u]) (by simp [results, Try.f24, go_sem, o0, o1]) rfl ?_
  subst hu
  exact ⟨_, _, _, rfl, hH', (hx.out.setCell (Nat.le_refl _) _).setCell (Nat.le_refl _) _⟩
end Go.Proofs.Ytbinnpadmajgpaa
