/-
  slices.Insert of one number into a row of one's own: in the midst, with no room; and whichever way.
-/
import Derived.Test.YthkfbdcocnhebaaZe
namespace Go.Proofs.Ythkfbdcocnhebaa
open Go.RowKit Go.Lib
set_option linter.unusedVariables false
set_option linter.unusedSimpArgs false

theorem ins_mid2 (w : World) (base vb n i c g : Nat) (cur : Array Value) (zs : List Value) (x : Value) (hb : base ≤ w.heap.size) (hg : w.heap[g]? = some (.cells cur 24 (0, 0))) (ht : cur.toList.take n = zs) (hl : zs.length = n) (hnc : n ≤ c) (hi : i < n) (hroom : c < n + 1) (hn : n ≤ 1000000) (h1 : ∀ u ∈ zs, u.oneCell' = true) (hx1 : x.oneCell' = true)
    (hx : w.heap[vb]? = some (.cells #[x] 24 (0, 0))) :
    Calls Try.prog 62 #[.slice (some ⟨g, 0, none⟩) n c, .int .i64 i, .slice (some ⟨vb, 0, none⟩) 1 1] w (InsR w base (.slice (some ⟨g, 0, none⟩) n c) (zs.take i ++ [x] ++ zs.drop i)) := by
  have hz := row_at hg ht
  refine (ins_grow g 0 n c i vb 0 1 1 zs [x] w hi (by omega) hnc hroom (by omega) hl rfl (fun j v hj => by rw [Nat.zero_add]; exact hz j v hj) (one_at hx) h1 (fun v hv => by rw [List.mem_singleton.1 hv]; exact hx1)).mono ?_
  rintro e w' ⟨rfl, rfl⟩
  have hG := grownCap_le_maxLen w (n + 1) c 24 (by unfold maxLen; omega)
  have hG2 := grownCap_ge w (n + 1) c 24
  have hL : (zs.take i ++ [x] ++ zs.drop i).length = n + 1 := by simp [List.length_take, List.length_drop]; omega
  generalize grownCap w (n + 1) c 24 = G at *
  obtain ⟨ROW, hROW⟩ : ∃ ROW : Array Value, (zs.take i).toArray ++ Builtin.zeroCells (Value.int .u64 0).cells (n + 1 - i) ++ Builtin.zeroCells (Value.int .u64 0).cells (G - (n + 1)) = ROW := ⟨_, rfl⟩
  have hRs : ROW.size = G := by rw [← hROW]; simp [Builtin.zeroCells, Value.cells, List.length_take]; omega
  have hRt : ∀ j, j < i → ROW[j]? = zs[j]? := fun j hj => by
    have hjl : j < (zs.take i).length := by rw [List.length_take]; omega
    rw [← hROW, Array.getElem?_append_left (by simp [Builtin.zeroCells, Value.cells]; omega), Array.getElem?_append_left (by simpa using hjl), List.getElem?_toArray, List.getElem?_take, if_pos hj]
  rw [hROW]
  clear hROW
  have hh : ((w.alloc (.cells ROW 24)).drew).heap[w.heap.size]? = some (.cells ROW 24 (0, 0)) := heap_alloc_new w _
  obtain ⟨⟨c1, e1, s1⟩, G1⟩ := setCells_row w.heap.size 24 [x] i ((w.alloc (.cells ROW 24)).drew) ROW hh
  obtain ⟨W1, hW1⟩ : ∃ W1, (w.alloc (.cells ROW 24)).drew.setCells w.heap.size i [x] = W1 := ⟨_, rfl⟩
  have k1 : ∀ j, j < i → W1.cell? ⟨w.heap.size, j, none⟩ = zs[j]? := fun j hj => by
    rw [← hW1, World.cell?_setCells_out _ _ _ _ _ (fun _ _ => by show j < i ∨ i + [x].length ≤ j; omega), cell_of_row _ _ j _ _ _ hh]
    exact hRt j hj
  have k2 : W1.cell? ⟨w.heap.size, i, none⟩ = some x := by
    have := World.cell?_setCells_in w.heap.size [x] i ((w.alloc (.cells ROW 24)).drew) (fun q hq => by rw [cell_of_row _ _ _ _ _ _ hh, Array.getElem?_eq_getElem (by simp at hq; omega)]; rfl) 0 (by simp)
    rw [hW1] at this
    simpa using this
  rw [hW1] at e1 G1 ⊢
  have e1' : W1.drew.heap[w.heap.size]? = some (.cells c1 24 (0, 0)) := e1
  obtain ⟨⟨c2, e2, s2⟩, G2⟩ := setCells_row w.heap.size 24 (zs.drop i) (i + 1) W1.drew c1 e1'
  have hal : w.grownBy W1 none := by
    refine ⟨G1.os, G1.tape, G1.output, by have := G1.size; simp at this; omega, fun k hk _ => ?_⟩
    exact (G1.block k (by simp; omega) (fun e => by simp at e; omega)).trans (Below.heap_alloc w _ k hk)
  refine ⟨_, rfl, ?_, ⟨G2.os.trans hal.os, G2.tape.trans hal.tape, G2.output.trans hal.output, Nat.le_trans hal.size G2.size, fun k hk hne => (G2.block k (by have := hal.size; exact Nat.lt_of_lt_of_le hk this) (fun e => by simp at e; omega)).trans (hal.block k hk (by simp))⟩, .inr ⟨w.heap.size, rfl, Nat.le_refl _⟩⟩
  have key := owns_of_row (w := W1.drew.setCells w.heap.size (i + 1) (zs.drop i)) (base := base) (cap := G) (xs := zs.take i ++ [x] ++ zs.drop i) hb e2 (by rw [s2, s1, hRs]) hG (by omega) (fun j v hj => ?_)
  · rw [hL] at key ⊢; exact key
  · rcases Nat.lt_trichotomy j i with h | h | h
    · rw [World.cell?_setCells_out _ _ _ _ _ (fun _ _ => by show j < i + 1 ∨ i + 1 + (zs.drop i).length ≤ j; omega)]
      rw [List.append_assoc, List.getElem?_append_left (by rw [List.length_take]; omega), List.getElem?_take, if_pos h] at hj
      exact (k1 j h).trans hj
    · subst h
      rw [World.cell?_setCells_out _ _ _ _ _ (fun _ _ => by show j < j + 1 ∨ j + 1 + (zs.drop j).length ≤ j; omega)]
      rw [List.append_assoc, List.getElem?_append_right (by rw [List.length_take]; omega), List.length_take, show j - min j zs.length = 0 by omega] at hj
      simp at hj
      subst hj
      exact k2
    · rw [List.append_assoc, List.getElem?_append_right (by rw [List.length_take]; omega), List.length_take, show j - min i zs.length = (j - i - 1) + 1 by omega, List.singleton_append, List.getElem?_cons_succ] at hj
      have hjl : j - i - 1 < (zs.drop i).length := (List.getElem?_eq_some_iff.1 hj).1
      have := World.cell?_setCells_in w.heap.size (zs.drop i) (i + 1) W1.drew (fun q hq => by rw [List.length_drop] at hq; rw [cell_of_row _ _ _ _ _ _ e1', Array.getElem?_eq_getElem (by omega)]; rfl) (j - i - 1) hjl
      rw [show i + 1 + (j - i - 1) = j by omega] at this
      rw [this, ← hj, List.getElem?_eq_getElem hjl]
theorem ins_any (w : World) (base vb n i : Nat) (v : Value) (zs : List Int) (x : Int) (H : w.ownsRow base 24 1 v n (zs.map (Value.int .u64))) (hb : base ≤ w.heap.size) (hi : i ≤ n) (hn : n ≤ 1000000)
    (hx : w.heap[vb]? = some (.cells #[.int .u64 x] 24 (0, 0))) (hvb : v.ownBlock ≠ some vb) :
    Calls Try.prog 62 #[v, .int .i64 i, .slice (some ⟨vb, 0, none⟩) 1 1] w (InsR w base v ((zs.take i ++ [x] ++ zs.drop i).map (Value.int .u64))) := by
  have hlen : (zs.map (Value.int .u64)).length = n := by simpa using H.1
  have hone := nums_oneCell zs
  have em : (zs.take i ++ [x] ++ zs.drop i).map (Value.int .u64) = (zs.map (Value.int .u64)).take i ++ [.int .u64 x] ++ (zs.map (Value.int .u64)).drop i := by simp [List.map_take, List.map_drop]
  rw [em]
  have eend : ∀ l : List Value, l.length = n → i = n → l.take i ++ [.int .u64 x] ++ l.drop i = l ++ [.int .u64 x] := fun l h1 h2 => by
    rw [List.take_of_length_le (by omega), List.drop_eq_nil_of_le (by omega), List.append_nil]
  rcases H.2 with ⟨rfl, rfl⟩ | ⟨g, cap, cur, rfl, hbg, hg, hnc, hcm, hcs, ht⟩
  · obtain rfl : i = 0 := by omega
    rw [eend _ hlen rfl]
    exact ins_end2 w base vb 0 0 none _ _ hb (Nat.le_refl _) hlen (by omega) (by omega) (fun _ => rfl) (fun a h => by cases h) rfl hx
  · rw [Nat.mul_one] at hcs ht
    have hne : vb ≠ g := fun e => hvb (by rw [e]; rfl)
    rcases Nat.lt_or_ge i n with h | h
    · rcases Nat.lt_or_ge cap (n + 1) with hc | hc
      · exact ins_mid2 w base vb n i cap g cur _ _ hb hg ht hlen hnc h hc hn hone rfl hx
      · exact ins_room w base vb n i cap g cur _ _ hbg hg hcs hcm ht hlen h hc hone rfl hx hne
    · obtain rfl : i = n := by omega
      rw [eend _ hlen rfl]
      rcases Nat.lt_or_ge cap (i + 1) with hc | hc
      · exact ins_end2 w base vb i cap _ _ _ hb hnc hlen hc hn (fun h => by cases h) (fun a ha j v hj => by cases ha; rw [add_plain, Nat.zero_add]; exact row_at hg ht j v hj) rfl hx
      · exact ins_end1 w base vb i cap g cur _ _ hbg hg hcs hcm ht hlen hc rfl hx
end Go.Proofs.Ythkfbdcocnhebaa
