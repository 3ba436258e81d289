/-
  slices.Delete of one number out of a row of one's own.
-/
import Derived.Test.YthkfbdcocnhebaaZf
import Derived.Test.YthkfbdcocnhebaaZa
namespace Go.Proofs.Ythkfbdcocnhebaa
open Go.RowKit Go.Lib Go.Sort
set_option linter.unusedVariables false
set_option linter.unusedSimpArgs false

theorem info24' : ∃ i0, Try.prog.info? 24 = some i0 ∧ i0.size = 1 := by
  obtain ⟨i0, h1, h2, h3, h4⟩ := info_parts info24
  exact ⟨i0, h1, h3⟩
theorem putRow_row (enc : Int → Value) (w : World) (g off : Nat) (d : Array Int) (cur : Array Value) (t : TypeId) (h : w.heap[g]? = some (.cells cur t (0, 0))) : (putRow enc w g off d).heap[g]? = some (.cells (putCells enc off d cur) t (0, 0)) := by
  unfold putRow mapBlock
  rw [Array.getElem?_modify, if_pos rfl, h]
  rfl
theorem putRow_grown (enc : Int → Value) (w : World) (g off : Nat) (d : Array Int) : w.grownBy (putRow enc w g off d) (some g) := by
  refine ⟨rfl, rfl, rfl, by unfold putRow mapBlock; simp, fun k hk hn => ?_⟩
  unfold putRow mapBlock
  rw [Array.getElem?_modify, if_neg (fun e => hn (by rw [e]))]
theorem del_any (w : World) (base n i : Nat) (v : Value) (zs : List Int) (H : w.ownsRow base 24 1 v n (zs.map (Value.int .u64))) (hi : i < n) :
    Calls Try.prog 63 #[v, .int .i64 (i : Int), .int .i64 ((i + 1 : Nat) : Int)] w (InsR w base v ((zs.take i ++ zs.drop (i + 1)).map (Value.int .u64))) := by
  have hlen : zs.length = n := by simpa using H.1
  rcases H.2 with ⟨rfl, rfl⟩ | ⟨g, cap, cur, rfl, hbg, hg, hnc, hcm, hcs, ht⟩
  · omega
  · rw [Nat.mul_one] at hcs ht
    have hz := row_at hg ht
    have hd : zs.toArray.size = n := by simpa using hlen
    have hH : Holds (Value.int .u64) w g 0 zs.toArray := fun j hj => by
      rw [hd] at hj
      refine ⟨?_, frozen_of_row w g _ _ 24 hg⟩
      rw [Nat.zero_add]
      refine hz j _ ?_
      rw [List.getElem?_map, List.getElem?_eq_getElem (by omega), getElem!_pos zs.toArray j (by omega)]
      simp
    obtain ⟨i0, f1, f2⟩ := info24'
    have C := del_gen (α := Int) (Value.int .u64) (fun _ => rfl) 0 (fun w => by kernel_rfl) i0 f1 f2 g 0 cap i (i + 1) zs.toArray w hH (by omega) (by unfold maxLen at hcm; omega) (by omega) (by omega)
    rw [hd] at C
    refine C.mono ?_
    rintro e w' ⟨rfl, q, rfl⟩
    have hL : ((zs.take i ++ zs.drop (i + 1)).map (Value.int .u64)).length = n - (i + 1 - i) := by simp [List.length_take, List.length_drop]; omega
    obtain ⟨D, hD⟩ : ∃ D, (zs.toArray.toList.take i ++ zs.toArray.toList.drop (i + 1) ++ List.replicate (i + 1 - i) (0 : Int)).toArray = D := ⟨_, rfl⟩
    have hDs : D.size = zs.toArray.size := by rw [← hD]; simp [List.length_take, List.length_drop]; omega
    have hDg : ∀ j, j < n - 1 → D[j]! = (zs.take i ++ zs.drop (i + 1)).getD j 0 := fun j hj => by
      rw [getElem!_pos D j (by omega)]
      have hjl : j < (zs.take i ++ zs.drop (i + 1)).length := by simp [List.length_take, List.length_drop]; omega
      subst hD
      simp only [List.getElem_toArray]
      rw [List.getElem_append_left hjl]
      simp [List.getD, List.getElem?_eq_getElem hjl]
    rw [hD]
    have hr := putRow_row (Value.int .u64) (Sort.ahead w q) g 0 D cur 24 hg
    refine ⟨_, rfl, ?_, (putRow_grown (Value.int .u64) (Sort.ahead w q) g 0 D).os |> fun _ => ⟨rfl, rfl, rfl, (putRow_grown (Value.int .u64) (Sort.ahead w q) g 0 D).size, (putRow_grown (Value.int .u64) (Sort.ahead w q) g 0 D).block⟩, .inl rfl⟩
    have key := owns_of_row (base := base) (cap := cap) (xs := (zs.take i ++ zs.drop (i + 1)).map (Value.int .u64)) hbg hr (by unfold putCells; simpa using hcs) hcm (by omega) (fun j v hj => ?_)
    · rw [hL] at key ⊢; exact key
    · have hjl : j < (zs.take i ++ zs.drop (i + 1)).length := by
        have := (List.getElem?_eq_some_iff.1 hj).1
        simpa using this
      have hjn : j < n - 1 := by rw [List.length_map] at hL; omega
      have := cell?_putRow (Value.int .u64) (Sort.ahead w q) g 0 zs.toArray D (holds_ahead _ w q g 0 _ hH) hDs j (by omega)
      rw [Nat.zero_add] at this
      rw [this, hDg j hjn]
      rw [List.getElem?_map, List.getElem?_eq_getElem hjl] at hj
      simp only [Option.map_some, Option.some.injEq] at hj
      rw [← hj]
      simp [List.getD, List.getElem?_eq_getElem hjl]
end Go.Proofs.Ythkfbdcocnhebaa
