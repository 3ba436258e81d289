/-
  Some records, not too great together: as a list, and the walk of few. What is refused for its length.
-/
import Derived.Test.YtbaclihlckfndaaDoorAC
namespace Go.Proofs.YtbaclihlckfndaaDoor
open Go.RowKit Go.Shelf
set_option linter.unusedVariables false

def fewF (left : Nat) : List (List Int) → List (List Int)
  | [] => []
  | x :: xs => if 65536 < x.length then x.take 65537 :: fewF left xs else x.take left :: fewF (left - min x.length left) xs
def leftF (left : Nat) : List (List Int) → Nat
  | [] => left
  | x :: xs => if 65536 < x.length then leftF left xs else leftF (left - min x.length left) xs
def fewL (ls : List (List Int)) : List (List Int) := fewF 5000 (ls.take 12)
theorem fewF_len (xs : List (List Int)) : ∀ left, (fewF left xs).length = xs.length := by
  induction xs with
  | nil => intro _; rfl
  | cons x xs ih => intro left; simp only [fewF]; split <;> simp [ih]
theorem fewF_app (xs ys : List (List Int)) : ∀ left, fewF left (xs ++ ys) = fewF left xs ++ fewF (leftF left xs) ys ∧ leftF left (xs ++ ys) = leftF (leftF left xs) ys := by
  induction xs with
  | nil => intro _; exact ⟨rfl, rfl⟩
  | cons x xs ih =>
    intro left
    simp only [List.cons_append, fewF, leftF]
    split
    · have := ih left
      exact ⟨by rw [this.1]; rfl, this.2⟩
    · have := ih (left - min x.length left)
      exact ⟨by rw [this.1]; rfl, this.2⟩
theorem fewF_twice (xs : List (List Int)) : ∀ left, fewF left (fewF left xs) = fewF left xs := by
  induction xs with
  | nil => intro _; rfl
  | cons x xs ih =>
    intro left
    by_cases h : 65536 < x.length
    · have h2 : 65536 < (x.take 65537).length := by simp; omega
      simp only [fewF, if_pos h, if_pos h2]
      rw [ih, List.take_take, Nat.min_self]
    · have h2 : ¬ 65536 < (x.take left).length := by simp; omega
      simp only [fewF, if_neg h, if_neg h2]
      rw [List.take_take, Nat.min_self, show left - min (x.take left).length left = left - min x.length left by simp; omega, ih]
theorem fewL_twice (ls : List (List Int)) : fewL (fewL ls) = fewL ls := by
  unfold fewL
  rw [List.take_of_length_le (by rw [fewF_len]; simp; omega), fewF_twice]
theorem fewL_len (ls : List (List Int)) : (fewL ls).length ≤ 12 := by unfold fewL; rw [fewF_len]; simp; omega
theorem fewF_all (xs : List (List Int)) (hb : ∀ x ∈ xs, Byts x) : ∀ left, left ≤ 65536 → ∀ y ∈ fewF left xs, Byts y ∧ y.length ≤ 65537 := by
  induction xs with
  | nil => intro _ _ y hy; cases hy
  | cons x xs ih =>
    intro left hl y hy
    have h1 := hb x (by simp)
    simp only [fewF] at hy
    split at hy
    · rcases List.mem_cons.1 hy with rfl | hy
      · exact ⟨h1.take _, by simp; omega⟩
      · exact ih (fun z hz => hb z (by simp [hz])) left hl y hy
    · rcases List.mem_cons.1 hy with rfl | hy
      · exact ⟨h1.take _, by simp; omega⟩
      · exact ih (fun z hz => hb z (by simp [hz])) _ (by omega) y hy
theorem leftF_le (xs : List (List Int)) : ∀ left, leftF left xs ≤ left := by
  induction xs with
  | nil => intro _; exact Nat.le_refl _
  | cons x xs ih =>
    intro left
    simp only [leftF]
    split
    · exact ih _
    · have := ih (left - min x.length left)
      omega
theorem fewF_take {ls : List (List Int)} {k : Nat} (hk : k < ls.length) :
    fewF 5000 (ls.take (k + 1)) = fewF 5000 (ls.take k) ++ [if 65536 < (ls.getD k []).length then (ls.getD k []).take 65537 else (ls.getD k []).take (leftF 5000 (ls.take k))] ∧
    leftF 5000 (ls.take (k + 1)) = (if 65536 < (ls.getD k []).length then leftF 5000 (ls.take k) else leftF 5000 (ls.take k) - min (ls.getD k []).length (leftF 5000 (ls.take k))) := by
  rw [take_snoc hk, (fewF_app _ _ _).1, (fewF_app _ _ _).2]
  simp only [fewF, leftF]
  split <;> simp

/-- A list comes out, in memory of its own. -/
def Lists (w : World) (ls : List (List Int)) (e : Ending) (w' : World) : Prop := ∃ a cap, e = .returned (.slice a ls.length cap) ∧ HasL w' a ls.length cap ls ∧ Below w.heap.size w w'

set_option maxRecDepth 100000 in
set_option maxHeartbeats 4000000 in
theorem few_any (w : World) (a : Option Addr) (len cap : Nat) (ls : List (List Int)) (h : HasL w a len cap ls) :
    Calls Tryd.prog 8 #[.slice a len cap] w (Lists w (fewL ls)) := by
  have hlen := h.hlen
  have hby := hide h.byts
  have hcells := hide h.cells
  have hcap := h.capb
  have hle := h.le
  unfold maxLen at hcap
  clear h
  go_enter Tryd.func8, Tryd.ntmps8
  go_wp2_with fail
  go_loopw [3, 4, 5] (fun v lf i wr => ∃ (k q : Nat) (vs : List Value) (ao : Option Addr) (co : Nat), k ≤ len ∧ k ≤ 12 ∧ q ≤ 5000 ∧ v = .slice ao k co ∧ lf = .int .i64 (q : Int) ∧ i = .int .i64 (k : Int) ∧ Hid (q = leftF 5000 (ls.take k)) ∧ Hid (Outs w.heap.size wr (.slice ao k co) vs (fewF 5000 (ls.take k))) ∧ Hid (Below w.heap.size w wr)) (fun _ _ i _ => len - (intOf i).toNat)
  case atStart => exact ⟨0, 5000, [], _, _, Nat.zero_le _, Nat.zero_le _, Nat.le_refl _, rfl, rfl, rfl, (rfl : 5000 = leftF 5000 (ls.take 0)), Outs.nil w _ (Nat.le_refl _), (Below.refl _ w).alloc (Nat.le_refl _) _⟩
  case round =>
    obtain ⟨k, q, vs, ao, co, hk, hk12, hq5, rfl, rfl, rfl, hqe, hO, hB⟩ := hrel
    by_cases hkl : k < len ∧ k < 12
    · obtain ⟨b, off, rfl, hbl, hcl⟩ := hcells.out (by omega)
      obtain ⟨ai, ni, ci, hc, hHi⟩ := hcl k hkl.1
      have i1 : (k : Int) < len := by omega
      have i2 : (k : Int) < 12 := by omega
      have c0 : wr.cell? ⟨b, off + k, none⟩ = some (.slice ai ni ci) := (hB.out.cell (p := ⟨b, off + k, none⟩) hbl).trans hc
      have hni := hHi.hlen
      have hnc := hHi.le
      have hcm := hHi.capb
      unfold maxLen at hcm
      have hbd := hB.out.size
      have hfl : Hid ((fewF 5000 (ls.take k)).length = k) := by show _ = _; rw [fewF_len, List.length_take]; omega
      have hrow : Hid (wr.ownsRow w.heap.size 24 1 (.slice ao k co) k vs) := by have := hO.out.row; rwa [hfl.out] at this
      have key : Hid (∀ (X : List Int), fewF 5000 (ls.take (k + 1)) = fewF 5000 (ls.take k) ++ [X] → ∀ (W1 : World), Below wr.heap.size wr W1 → ∀ (ob : Obj) (W2 : World) (u v' : Value), W1.ownsRow wr.heap.size 5 1 u X.length (X.map (Value.int .u8)) → W2.ownsRow w.heap.size 24 1 v' (k + 1) (vs ++ [u]) → (W1.alloc ob).grownBy W2 (Value.slice ao k co).ownBlock → Outs w.heap.size W2 v' (vs ++ [u]) (fewF 5000 (ls.take (k + 1))) ∧ Below w.heap.size w W2) := by
        intro X hX W1 hb1 ob W2 u v' hu hO2 hG
        refine ⟨?_, ?_⟩
        · rw [hX]
          exact hO.out.add hbd hb1 hu ob (by rw [hfl.out]; exact hO2) hG
        · have B1 : Below w.heap.size w W1 := (hB.out.trans (hb1.mono hbd))
          exact (B1.alloc B1.size ob).grown hG (Nat.le_trans B1.size (by simp)) (fun q e => (hrow.out.lt q e).1)
      have hft := fewF_take (ls := ls) (k := k) (by omega)
      rw [← hqe.out, hni] at hft
      by_cases hlong : 65536 < ni
      · rw [if_pos hlong, if_pos hlong] at hft
        have j1 : (65536 : Int) < ni := by omega
        have j2 : (65537 : Int) ≤ ci := by omega
        have j3 : ci ≠ 0 := by omega
        have H1 : Has wr ai 65537 ci ((ls.getD k []).take 65537) := (hHi.kept hB.out (Nat.le_refl _)).front 65537 (by omega)
        have hcall := hide (bytes_any wr ai 65537 ci _ H1 (by omega))
        have hX := hide (key.out _ hft.1)
        have hl2 := hide hft.2
        generalize (ls.getD k []).take 65537 = X at hcall hX
        clear hcl hHi hc H1 hft key hni hO
        go_wp2_with (first
          | (go_at_call 15; refine hcall.out.mono ?_; rintro e W1 ⟨a1, n1, c1, rfl, H2, B2, R2⟩; have el := H2.hlen; subst el; replace hX := hide (hX.out _ B2); replace R2 := hide R2; have hrow1 := hide (hrow.out.kept (below_grown (B2.alloc B2.size (Obj.cells #[.slice a1 X.length c1] 24))) (Classical.em _)); have hz1 := B2.size; clear H2 B2)
          | (at_builtin; refine wpList_app1 rfl (.tmp 37) (.tmp 40) rfl w.heap.size _ k vs rfl hrow1.out W1.heap.size 1 _ rfl (cell_new_l W1 _ 24).1 rfl (by omega) (by simp; omega) ?_; intro v' W2 O2 G2; obtain ⟨F1, F2⟩ := hX.out _ _ _ _ R2.out O2 G2; obtain ⟨a3, c3, e3⟩ := slice_of_owns O2; subst e3; replace F1 := hide F1; replace F2 := hide F2; clear O2 G2))
        go_roundw
        case rel => exact ⟨k + 1, q, _, a3, c3, by omega, by omega, hq5, rfl, rfl, by go_num, hl2.out.symm, F1, F2⟩
        case measure => simp [intOf]; omega
      · rw [if_neg hlong, if_neg hlong] at hft
        obtain ⟨m, hm⟩ : ∃ m, min ni q = m := ⟨_, rfl⟩
        have em : (if (q : Int) < (ni : Int) then (q : Int) else (ni : Int)) = (m : Int) := by split <;> omega
        have em2 : (if q < ni then (q : Int) else (ni : Int)) = (m : Int) := by split <;> omega
        have j1 : ¬ ((65536 : Int) < ni) := by omega
        have j2 : (m : Int) ≤ ci := by omega
        have j4 : (q : Int) - (m : Int) = ((q - m : Nat) : Int) := by omega
        have H1 : Has wr ai m ci ((ls.getD k []).take q) := by
          have := (hHi.kept hB.out (Nat.le_refl _)).front m (by omega)
          rwa [show (ls.getD k []).take m = (ls.getD k []).take q by rw [List.take_eq_take_iff]; omega] at this
        have hcall := hide (bytes_any wr ai m ci _ H1 (by omega))
        have hX := hide (key.out _ hft.1)
        rw [hm] at hft
        have hl2 := hide hft.2
        generalize (ls.getD k []).take q = X at hcall hX
        clear hcl hHi hc H1 hft key hni hO
        replace hm := hide hm
        have hmq : m ≤ 5000 := by have := hm.out; omega
        go_wp2_with (first
          | (go_at_call 15; refine hcall.out.mono ?_; rintro e W1 ⟨a1, n1, c1, rfl, H2, B2, R2⟩; have el := H2.hlen; subst el; replace hX := hide (hX.out _ B2); replace R2 := hide R2; have hrow1 := hide (hrow.out.kept (below_grown (B2.alloc B2.size (Obj.cells #[.slice a1 X.length c1] 24))) (Classical.em _)); have hz1 := B2.size; clear H2 B2)
          | (at_builtin; refine wpList_app1 rfl (.tmp 37) (.tmp 40) rfl w.heap.size _ k vs rfl hrow1.out W1.heap.size 1 _ rfl (cell_new_l W1 _ 24).1 rfl (by omega) (by simp; omega) ?_; intro v' W2 O2 G2; obtain ⟨F1, F2⟩ := hX.out _ _ _ _ R2.out O2 G2; obtain ⟨a3, c3, e3⟩ := slice_of_owns O2; subst e3; replace F1 := hide F1; replace F2 := hide F2; clear O2 G2))
        go_roundw
        case rel => exact ⟨k + 1, q - m, _, a3, c3, by omega, by omega, by omega, rfl, rfl, by go_num, hl2.out.symm, F1, F2⟩
        case measure => simp [intOf]; omega
    · have hend : fewF 5000 (ls.take k) = fewL ls := by
        unfold fewL
        rcases (show k = ls.length ∨ k = 12 by omega) with rfl | rfl
        · rw [List.take_length, List.take_of_length_le (by omega)]
        · rfl
      have hO2 := hO.out
      rw [hend] at hO2
      have hfb : ∀ x ∈ fewL ls, Byts x := fun x hx => (fewF_all _ (fun y hy => hby.out y (List.mem_of_mem_take hy)) 5000 (by omega) x hx).1
      obtain ⟨a2, c2, e2, H2⟩ := hO2.hasL hfb
      obtain ⟨rfl, e3, rfl⟩ : ao = a2 ∧ k = (fewL ls).length ∧ co = c2 := by cases e2; exact ⟨rfl, rfl, rfl⟩
      have fin : Hid (Lists w (fewL ls) (.returned (.slice ao k co)) wr) := ⟨ao, co, by rw [← e3], H2, hB.out⟩
      replace e3 := hide e3
      clear hO hO2 hfb e2 H2 hend
      by_cases h8 : k < len
      · obtain rfl : k = 12 := by omega
        have i1 : (12 : Int) < len := by omega
        go_wp2_with fail
        go_ret
        exact fin.out
      · obtain rfl : k = len := by omega
        go_wp2_with fail
        go_ret
        exact fin.out
end Go.Proofs.YtbaclihlckfndaaDoor
