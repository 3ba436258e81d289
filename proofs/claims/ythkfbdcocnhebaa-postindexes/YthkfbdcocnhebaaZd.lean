/-
  slices.Insert of one number into a row of one's own: wherever, with room or none.
-/
import Derived.Test.YthkfbdcocnhebaaZc
namespace Go.Proofs.Ythkfbdcocnhebaa
open Go.RowKit Go.Lib
set_option linter.unusedVariables false
set_option linter.unusedSimpArgs false

theorem owns_of_row {w : World} {base g cap : Nat} {cur : Array Value} {xs : List Value} (hb : base ≤ g) (h : w.heap[g]? = some (.cells cur 24 (0, 0))) (hs : cur.size = cap) (hm : cap ≤ maxLen) (hn : xs.length ≤ cap) (hx : ∀ j v, xs[j]? = some v → w.cell? ⟨g, j, none⟩ = some v) :
    w.ownsRow base 24 1 (.slice (some ⟨g, 0, none⟩) xs.length cap) xs.length xs := by
  refine ⟨by simp, .inr ⟨g, cap, cur, rfl, hb, h, hn, hm, by simp [hs], ?_⟩⟩
  apply List.ext_getElem?
  intro j
  rw [Nat.mul_one, List.getElem?_take]
  by_cases hj : j < xs.length
  · have h1 := hx j xs[j] (List.getElem?_eq_getElem hj)
    rw [cell_of_row w g j _ _ _ h] at h1
    rw [if_pos hj, List.getElem?_eq_getElem hj, Array.getElem?_toList]
    exact h1
  · rw [if_neg hj, List.getElem?_eq_none (by omega)]
/-- What Insert leaves: the result owns l, in the old row or in a new one. -/
def InsR (w : World) (base : Nat) (v : Value) (l : List Value) (e : Ending) (w' : World) : Prop :=
  ∃ v', e = .returned v' ∧ w'.ownsRow base 24 1 v' l.length l ∧ w.grownBy w' v.ownBlock ∧ (v'.ownBlock = v.ownBlock ∨ ∃ g, v'.ownBlock = some g ∧ w.heap.size ≤ g)
theorem grown_drew {w w' : World} {r : Option Nat} (h : w.drew.grownBy w' r) : w.grownBy w' r := ⟨h.os, h.tape, h.output, h.size, h.block⟩
theorem ins_room (w : World) (base vb n i c g : Nat) (cur : Array Value) (zs : List Value) (x : Value) (hb : base ≤ g) (hg : w.heap[g]? = some (.cells cur 24 (0, 0))) (hs : cur.size = c) (hc : c ≤ maxLen) (ht : cur.toList.take n = zs) (hl : zs.length = n) (hi : i < n) (hroom : n + 1 ≤ c) (h1 : ∀ u ∈ zs, u.oneCell' = true) (hx1 : x.oneCell' = true)
    (hx : w.heap[vb]? = some (.cells #[x] 24 (0, 0))) (hvb : vb ≠ g) :
    Calls Try.prog 62 #[.slice (some ⟨g, 0, none⟩) n c, .int .i64 i, .slice (some ⟨vb, 0, none⟩) 1 1] w (InsR w base (.slice (some ⟨g, 0, none⟩) n c) (zs.take i ++ [x] ++ zs.drop i)) := by
  have cc : ∀ j, w.cell? ⟨g, j, none⟩ = cur[j]? := fun j => cell_of_row w g j _ _ _ hg
  have hz : ∀ j v, zs[j]? = some v → w.cell? ⟨g, j, none⟩ = some v := fun j v hj => by
    rw [cc, ← Array.getElem?_toList]
    rw [← ht, List.getElem?_take] at hj
    split at hj
    · exact hj
    · cases hj
  refine (ins_shift g 0 n c i vb 0 1 1 zs [x] w hi (by omega) (by omega) (by unfold maxLen at hc; omega) hvb hl rfl (fun j v hj => by rw [Nat.zero_add]; exact hz j v hj) (fun j hj => by rw [Nat.zero_add, cc, Array.getElem?_eq_getElem (by omega)]; rfl) (fun j hj => frozen_of_row w g _ _ 24 hg)
    (fun j v hj => by
      rw [Nat.zero_add, cell_of_row w vb j _ _ _ hx]
      rcases j with _ | j
      · simpa using hj
      · simp at hj) h1 (fun v hv => by rw [List.mem_singleton.1 hv]; exact hx1) 24 24 1 c ?_ ?_ (by omega) (frozen_of_row w vb _ _ 24 hx) (frozen_of_row w vb _ _ 24 hx)).mono ?_
  · simp [World.shape?, hx]
  · simp [World.shape?, hg, hs]
  · rintro e w' ⟨rfl, rfl⟩
    have hd : w.drew.heap[g]? = some (.cells cur 24 (0, 0)) := hg
    obtain ⟨⟨c1, e1, s1⟩, G1⟩ := setCells_row g 24 (zs.drop i) (0 + (i + 1)) w.drew cur hd
    obtain ⟨⟨c2, e2, s2⟩, G2⟩ := setCells_row g 24 [x] (0 + i) (w.drew.setCells g (0 + (i + 1)) (zs.drop i)) c1 e1
    have hL : (zs.take i ++ [x] ++ zs.drop i).length = n + 1 := by simp [List.length_take, List.length_drop]; omega
    refine ⟨_, rfl, ?_, grown_drew (G1.trans G2), .inl rfl⟩
    have key := owns_of_row (w := (w.drew.setCells g (0 + (i + 1)) (zs.drop i)).setCells g (0 + i) [x]) (base := base) (cap := c) (xs := zs.take i ++ [x] ++ zs.drop i) hb e2 (by rw [s2, s1, hs]) hc (by omega) (fun j v hj => ?_)
    · rw [hL] at key ⊢; exact key
    · have hin : ∀ j, j < (zs.drop i).length → (w.drew.cell? ⟨g, 0 + (i + 1) + j, none⟩).isSome = true := fun j hj => by
        rw [List.length_drop] at hj
        show (w.cell? _).isSome = true
        rw [cc, Array.getElem?_eq_getElem (by omega)]; rfl
      rcases Nat.lt_trichotomy j i with h | h | h
      · rw [World.cell?_setCells_out g _ _ _ _ (fun _ _ => by show j < 0 + i ∨ 0 + i + [x].length ≤ j; omega), World.cell?_setCells_out g _ _ _ _ (fun _ _ => by show j < 0 + (i + 1) ∨ 0 + (i + 1) + (zs.drop i).length ≤ j; omega)]
        rw [List.append_assoc, List.getElem?_append_left (by rw [List.length_take]; omega), List.getElem?_take, if_pos h] at hj
        exact hz j v hj
      · subst h
        rw [List.append_assoc, List.getElem?_append_right (by rw [List.length_take]; omega), List.length_take] at hj
        rw [show j - min j zs.length = 0 by omega] at hj
        simp at hj
        subst hj
        have := World.cell?_setCells_in g [x] (0 + j) (w.drew.setCells g (0 + (j + 1)) (zs.drop j)) (fun q hq => by
          have : q = 0 := by simpa using hq
          subst this
          rw [cell_of_row _ g _ _ _ _ e1, Array.getElem?_eq_getElem (by omega)]; rfl) 0 (by simp)
        simpa using this
      · rw [World.cell?_setCells_out g _ _ _ _ (fun _ _ => by show j < 0 + i ∨ 0 + i + [x].length ≤ j; simp; omega)]
        rw [List.append_assoc, List.getElem?_append_right (by rw [List.length_take]; omega), List.length_take] at hj
        rw [show j - min i zs.length = (j - i - 1) + 1 by omega] at hj
        rw [List.singleton_append, List.getElem?_cons_succ] at hj
        have hjl : j - i - 1 < (zs.drop i).length := (List.getElem?_eq_some_iff.1 hj).1
        have := World.cell?_setCells_in g (zs.drop i) (0 + (i + 1)) w.drew hin (j - i - 1) hjl
        rw [show 0 + (i + 1) + (j - i - 1) = j by omega] at this
        rw [this, ← hj, List.getElem?_eq_getElem hjl]
end Go.Proofs.Ythkfbdcocnhebaa
