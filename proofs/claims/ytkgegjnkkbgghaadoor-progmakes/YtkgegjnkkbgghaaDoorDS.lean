/-
  Builder.String, with all that it leaves; how long a text is.
-/
import Derived.Test.YtkgegjnkkbgghaaDoorDG
import Derived.BigRegion
namespace Go.Proofs.YtkgegjnkkbgghaaDoor
open Go.RowKit Go.Shelf Go.Lib
set_option linter.unusedVariables false
set_option linter.unusedSimpArgs false

theorem tz_freeze {B gb g n : Nat} {w : World} {cur : Array Value} (hg : w.heap[g]? = some (.cells cur 5 (0, 0))) (hB : B ≤ g) : Tz B gb w (w.drew.freeze ⟨g, 0, none⟩ n) := by
  refine ⟨Lib.below_freeze (Below.drew (Below.refl B w)) (p := ⟨g, 0, none⟩) hB _, fun k o hk ho hn => ?_⟩
  have hkg : k ≠ g := fun e => by
    subst e
    rw [hg] at ho
    cases ho
    exact hn _ _ rfl
  unfold World.freeze
  split
  · exact ho
  · show (w.heap.modify g _)[k]? = some o
    rw [Array.getElem?_modify, if_neg (fun e => hkg e.symm)]
    exact ho
set_option maxHeartbeats 4000000 in
set_option maxRecDepth 100000 in
theorem st2_any (B b gb : Nat) (l : List UInt8) (w : World) (h : IsBuilder 61 5 B b (byteCells l) w) (h0 : l ≠ []) :
    Calls Tryd.prog 31 #[.pointer (some ⟨b, 0, none⟩)] w fun e w' => e = .returned (.string ⟨l.toArray⟩) ∧ Tz B gb w w' := by
  obtain ⟨p, hB, v, hbk, hown, hne⟩ : ∃ p, BuilderAt 61 5 B b p (byteCells l) w := by
    rcases h with h | h
    · exact ⟨_, h⟩
    · exact ⟨_, h⟩
  have hl0 : l.length ≠ 0 := by simpa using h0
  rw [byteCells_length] at hown
  obtain ⟨g, cp, cur, rfl, hbg, hg, hnc, hcm, hcs, htake⟩ : ∃ g cp cur, v = .slice (some ⟨g, 0, none⟩) l.length cp ∧ B ≤ g ∧ w.heap[g]? = some (.cells cur 5 (0, 0)) ∧ l.length ≤ cp ∧ cp ≤ maxLen ∧ cur.size = cp * 1 ∧ cur.toList.take (l.length * 1) = byteCells l := by
    rcases hown.2 with ⟨_, hz⟩ | ⟨g, cp, cur, hv, r⟩
    · exact absurd hz hl0
    · exact ⟨g, cp, cur, hv, r⟩
  have c1 : w.drew.cell? ⟨b, 1, none⟩ = some (.slice (some ⟨g, 0, none⟩) l.length cp) := by
    have e : w.drew.heap[b]? = some (.cells #[p, .slice (some ⟨g, 0, none⟩) l.length cp] 61 (0, 0)) := hbk
    rw [cell_of_heap e]; rfl
  have hSD : (Builtin.unsafeSliceData_ #[59] 87 #[.slice (some ⟨g, 0, none⟩) l.length cp]).run Tryd.prog w.drew = .ok (.pointer (some ⟨g, 0, none⟩)) w.drew := run_unsafeSliceData_row _ _ _ _ _ _ (by omega)
  have hUS : (Builtin.unsafeString_ #[87, 3] 9 #[.pointer (some ⟨g, 0, none⟩), .int .i64 l.length]).run Tryd.prog w.drew = .ok (.string ⟨l.toArray⟩) (w.drew.freeze ⟨g, 0, none⟩ l.length) := by
    refine run_unsafeString_row w.drew 87 3 9 5 Tryd.underlying87 extraST.cellsByte g cur.size (by have hg' : w.drew.heap[g]? = some (.cells cur 5 (0, 0)) := hg; simp [World.shape?, hg']) l h0 (by omega) (by unfold maxLen at hcm; omega) ?_
    intro j x hx
    exact hown.cells (g := g) rfl j (.int .u8 x.toNat) (by simp [byteCells, hx])
  have fin := hide (tz_freeze (B := B) (gb := gb) (n := l.length) hg hbg)
  clear h hown hcs htake hbk
  have mixed := Tryd.laysST.mixed
  go_enter Tryd.func31, Tryd.ntmps31
  go_wp2
  go_region_o
  all_goals (go_wp2; go_ret; exact ⟨rfl, fin.out⟩)
theorem nums_len : ∀ (zs : List Int), (∀ z ∈ zs, 0 ≤ z ∧ z < 1000000) → (nums zs).length ≤ 7 * zs.length
  | [], _ => by simp [nums]
  | z :: r, h => by
    have h1 := nums_len r (fun y hy => h y (List.mem_cons_of_mem _ hy))
    have h2 := itoa_len z (h z (by simp)).1 (h z (by simp)).2
    have e : nums (z :: r) = nums [z] ++ nums r := nums_append [z] r
    rw [e, nums_one, List.length_append, List.length_cons, List.length_cons]
    omega
theorem fm_name (op : Int) : (fm op).nm.data.toList.length ≤ 5 := by
  unfold fm
  split
  · decide
  · split
    · decide
    · split
      · decide
      · split <;> decide
theorem fit_fields {i : Ins} {n : Nat} (h : fitI i n = true) (hn : n ≤ 2048) : (i.op = 1 ∨ i.op = 2 ∨ i.op = 3 ∨ i.op = 4) ∧ 0 ≤ i.x ∧ i.x < 4096 ∧ 0 ≤ i.y ∧ i.y < 4096 := by
  unfold fitI at h
  simp only [Bool.and_eq_true, Bool.or_eq_true, beq_iff_eq, inB, decide_eq_true_eq] at h
  obtain ⟨h1, ⟨h2, h3⟩, h4, h5⟩ := h
  have hb : ∀ ex j, bnd ex n j ≤ 2048 := fun ex j => by unfold bnd; split <;> omega
  have := hb (fm i.op).ex 0
  have := hb (fm i.op).ex 1
  exact ⟨by rcases h1 with h1 | ⟨(h1 | h1) | h1, _⟩ <;> omega, h2, by omega, h4, by omega⟩
theorem csn4 (s : S4) : 0 ≤ csn s 4 ∧ csn s 4 ≤ 508 := ⟨(csn_range s 4).1, Int.le_trans (csn_range s 4).2 (by decide)⟩
theorem line_len {i : Ins} {n : Nat} (h : fitI i n = true) (hn : n ≤ 2048) : (lineI i).length ≤ 40 := by
  obtain ⟨_, h1, h2, h3, h4⟩ := fit_fields h hn
  have hc := csn4 i.s
  have hN := fm_name i.op
  unfold lineI
  generalize csn i.s 4 = q at hc ⊢
  have hz : ∀ z ∈ (if (fm i.op).hs = true then [q] else []) ++ [i.x, i.y].take (fm i.op).ex, 0 ≤ z ∧ z < 1000000 := fun z hz => by
    rcases List.mem_append.1 hz with hz | hz
    · split at hz
      · rw [List.mem_singleton.1 hz]; omega
      · cases hz
    · have := List.mem_of_mem_take hz
      simp only [List.mem_cons, List.not_mem_nil, or_false] at this
      rcases this with rfl | rfl <;> omega
  have hl := nums_len _ hz
  have hl2 : ((if (fm i.op).hs = true then [q] else []) ++ [i.x, i.y].take (fm i.op).ex).length ≤ 3 := by
    rw [List.length_append, List.length_take]
    split <;> simp <;> omega
  simp only [List.length_append, List.length_singleton] at hl hl2 ⊢
  omega
theorem txt_len {n : Nat} (hn : n ≤ 2048) : ∀ (pre : List { i : Ins // fitI i n = true }), (txtI (pre.map Subtype.val)).length ≤ 40 * pre.length
  | [] => by simp [txtI]
  | x :: r => by
    have h1 := txt_len hn r
    have h2 := line_len x.2 hn
    simp only [txtI, List.map_cons, List.flatMap_cons, List.length_append, List.length_cons] at h1 ⊢
    omega
theorem txt_ne {L : List Ins} (h : 0 < L.length) : txtI L ≠ [] := by
  cases L with
  | nil => simp at h
  | cons i r => simp [txtI, lineI]
end Go.Proofs.YtkgegjnkkbgghaaDoor
