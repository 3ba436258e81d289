/-
  slices.Insert of one number into a row of one's own: at the end; with no room.
-/
import Derived.Test.YthkfbdcocnhebaaZd
namespace Go.Proofs.Ythkfbdcocnhebaa
open Go.RowKit Go.Lib
set_option linter.unusedVariables false
set_option linter.unusedSimpArgs false

theorem row_at {w : World} {g n : Nat} {cur : Array Value} {zs : List Value} (hg : w.heap[g]? = some (.cells cur 24 (0, 0))) (ht : cur.toList.take n = zs) : ∀ j v, zs[j]? = some v → w.cell? ⟨g, j, none⟩ = some v := fun j v hj => by
  rw [cell_of_row w g j _ _ _ hg, ← Array.getElem?_toList]
  rw [← ht, List.getElem?_take] at hj
  split at hj
  · exact hj
  · cases hj
theorem one_at {w : World} {vb : Nat} {x : Value} (hx : w.heap[vb]? = some (.cells #[x] 24 (0, 0))) : ∀ j v, [x][j]? = some v → w.cell? ⟨vb, 0 + j, none⟩ = some v := fun j v hj => by
  rw [Nat.zero_add, cell_of_row w vb j _ _ _ hx]
  rcases j with _ | j
  · simpa using hj
  · simp at hj
theorem ins_end1 (w : World) (base vb n c g : Nat) (cur : Array Value) (zs : List Value) (x : Value) (hb : base ≤ g) (hg : w.heap[g]? = some (.cells cur 24 (0, 0))) (hs : cur.size = c) (hc : c ≤ maxLen) (ht : cur.toList.take n = zs) (hl : zs.length = n) (hroom : n + 1 ≤ c) (hx1 : x.oneCell' = true)
    (hx : w.heap[vb]? = some (.cells #[x] 24 (0, 0))) :
    Calls Try.prog 62 #[.slice (some ⟨g, 0, none⟩) n c, .int .i64 n, .slice (some ⟨vb, 0, none⟩) 1 1] w (InsR w base (.slice (some ⟨g, 0, none⟩) n c) (zs ++ [x])) := by
  have cc : ∀ j, w.cell? ⟨g, j, none⟩ = cur[j]? := fun j => cell_of_row w g j _ _ _ hg
  have hz := row_at hg ht
  have hsm : ∀ j, j < 1 → (w.cell? ⟨g, 0 + n + j, none⟩).isSome = true := fun j hj => by rw [cc, Array.getElem?_eq_getElem (by omega)]; rfl
  refine (ins_end_room g 0 n c vb 0 1 1 [x] w (by omega) (by omega) (by unfold maxLen at hc; omega) rfl hsm (fun j hj => frozen_of_row w g _ _ 24 hg) (one_at hx) (fun v hv => by rw [List.mem_singleton.1 hv]; exact hx1)).mono ?_
  rintro e w' ⟨rfl, rfl⟩
  obtain ⟨⟨c1, e1, s1⟩, G1⟩ := setCells_row g 24 [x] (0 + n) w cur hg
  have hL : (zs ++ [x]).length = n + 1 := by simp; omega
  refine ⟨_, rfl, ?_, G1, .inl rfl⟩
  have key := owns_of_row (w := w.setCells g (0 + n) [x]) (base := base) (cap := c) (xs := zs ++ [x]) hb e1 (by rw [s1, hs]) hc (by omega) (fun j v hj => ?_)
  · rw [hL] at key ⊢; exact key
  · rcases Nat.lt_or_ge j n with h | h
    · rw [World.cell?_setCells_out g _ _ _ _ (fun _ _ => by show j < 0 + n ∨ 0 + n + [x].length ≤ j; omega)]
      rw [List.getElem?_append_left (by omega)] at hj
      exact hz j v hj
    · rw [List.getElem?_append_right (by omega)] at hj
      have hjl : j - zs.length = 0 := by
        have := (List.getElem?_eq_some_iff.1 hj).1
        simp at this; omega
      rw [hjl] at hj
      simp at hj
      subst hj
      have := World.cell?_setCells_in g [x] (0 + n) w (fun q hq => hsm q (by simpa using hq)) 0 (by simp)
      rw [show 0 + n + 0 = j by omega] at this
      simpa using this
theorem ins_end2 (w : World) (base vb n c : Nat) (ad : Option Addr) (zs : List Value) (x : Value) (hb : base ≤ w.heap.size) (hnc : n ≤ c) (hl : zs.length = n) (hroom : c < n + 1) (hn : n ≤ 1000000) (hnil : ad = none → n = 0) (hz : ∀ a, ad = some a → ∀ j v, zs[j]? = some v → w.cell? (a.add j) = some v) (hx1 : x.oneCell' = true)
    (hx : w.heap[vb]? = some (.cells #[x] 24 (0, 0))) :
    Calls Try.prog 62 #[.slice ad n c, .int .i64 n, .slice (some ⟨vb, 0, none⟩) 1 1] w (InsR w base (.slice ad n c) (zs ++ [x])) := by
  refine (ins_end_grow ad n c vb 0 1 1 zs [x] w (by omega) hnc hroom (by omega) hl rfl hnil hz (one_at hx) (fun v hv => by rw [List.mem_singleton.1 hv]; exact hx1)).mono ?_
  rintro e w' ⟨rfl, rfl⟩
  have hG := grownCap_le_maxLen w (n + 1) c 24 (by unfold maxLen; omega)
  have hG2 := grownCap_ge w (n + 1) c 24
  have hL : (zs ++ [x]).length = n + 1 := by simp; omega
  generalize grownCap w (n + 1) c 24 = G at *
  have hh : (w.drew.alloc (.cells ((zs ++ [x]).toArray ++ Builtin.zeroCells (Value.int .u64 0).cells (G - (n + 1))) 24)).heap[w.heap.size]? = some (.cells ((zs ++ [x]).toArray ++ Builtin.zeroCells (Value.int .u64 0).cells (G - (n + 1))) 24 (0, 0)) := heap_alloc_new w.drew _
  refine ⟨_, rfl, ?_, grown_drew (World.grownBy_alloc _ _ _), .inr ⟨w.heap.size, rfl, Nat.le_refl _⟩⟩
  have key := owns_of_row (base := base) (cap := G) (xs := zs ++ [x]) hb hh (by simp [Builtin.zeroCells, Value.cells]; omega) hG (by omega) (fun j v hj => ?_)
  · rw [hL] at key ⊢; exact key
  · rw [cell_of_row _ _ j _ _ _ hh, Array.getElem?_append_left (by have := (List.getElem?_eq_some_iff.1 hj).1; simpa using this), List.getElem?_toArray]
    exact hj
end Go.Proofs.Ythkfbdcocnhebaa
