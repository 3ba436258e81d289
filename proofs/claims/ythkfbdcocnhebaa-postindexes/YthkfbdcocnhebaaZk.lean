/-
  The program's Keys (maps.Keys, slices.Sorted: the shelf's contracts, laid at this program).
-/
import Derived.Test.YthkfbdcocnhebaaZj
import Derived.Test.YthkfbdcocnhebaaY
import Derived.Shelf.SlIter.Nil
import Derived.Shelf.SortM.Plain
import Derived.Shelf.SortM.SortNone
import Derived.Ground.GgzProg
import Derived.Ground.SlgmProg
import Derived.Shelf.Abstract
import Derived.Shelf.RegionOpen
namespace Go.Proofs.Ythkfbdcocnhebaa
open Go.RowKit Go.Maps Go.WideMaps Go.Sort Go.Shelf
set_option linter.unusedVariables false
set_option linter.unusedSimpArgs false
attribute [local go_sem] Oper.semAt_some
shelf_lay_g SlLaysZ.n7 Ggz 7 at Try 56 as Try.keys56
shelf_lay_g SlLaysZ.n6 Ggz 6 at Try 55 as Try.sorted55
shelf_lay_g SlLaysM.n6 Slgm 6 at Try 65 as Try.sort65

theorem Try.sorts55 (m : Nat) : AnyZ.SortsIn Try.prog Try.sorted55_ren Fence.wide m :=
  ⟨fun blk off cap ss W hH hblk hsz => callsIn_wide.2 (AnyM.slices_Sort_string Try.sort65 blk off cap ss W hH hblk hsz),
   fun p cap W => callsIn_wide.2 (AnyM.slices_Sort_string_none Try.sort65 p cap W)⟩
theorem Try.maps_Keys_56 (mb : Option Nat) (W : World) : CallsIn Fence.wide 5 Try.prog 56 #[.map mb] W fun e w' => e = .returned (.func (.func 66) #[] #[.pointer (some ⟨W.heap.size, 0, none⟩)]) ∧ w' = W.alloc (.cells #[.map mb] 66) :=
  AnyZ.keys_in Try.keys56 Fence.wide 5 trivial rfl mb W
set_option maxHeartbeats 1000000 in
theorem Try.sorted_keys {H : Type} (b nn : Nat) (D0 : DataW H) (R : Value → Option (DataW H × List MemPlace)) (w : World) (hown : w.ownsMap Try.prog 9 R b nn D0) (hmax : Maps.size D0 ≤ maxLen) (hbytes : Maps.size D0 * 16 ≤ 140737488355328) :
    CallsIn Fence.wide 5 Try.prog 55 #[.func (.func 66) #[] #[.pointer (some ⟨w.heap.size, 0, none⟩)]] (w.alloc (.cells #[.map (some b)] 66)) fun e w' => ∃ (v : Value) (ss : List (List UInt8)), e = .returned v ∧ ss.Perm (strKeys D0) ∧
      w'.ownsRow (w.alloc (.cells #[.map (some b)] 66)).heap.size 9 1 v ss.length ((ss.mergeSort (fun x y => decide (x ≤ y))).map encStr) ∧ (v = .slice none 0 0 ↔ ss = []) ∧ Below (w.alloc (.cells #[.map (some b)] 66)).heap.size (w.alloc (.cells #[.map (some b)] 66)) w' := by
  have hbl := hown.lt
  have hseq : SeqGives Fence.wide 2 Try.prog 66 #[.pointer (some ⟨w.heap.size, 0, none⟩)] encStr (fun ss => ss.Perm (strKeys D0)) (Maps.size D0) (w.alloc (.cells #[.map (some b)] 66)) :=
    AnyZ.keys_gives (ρ := Try.keys56_ren) { Try.keys56 with } Fence.wide _ trivial rfl (by omega) w.heap.size b nn D0 _ (by simp) (by simp) (by
      obtain ⟨es, clock, hb, Ft, hs, hD⟩ := hown
      exact ⟨es, clock, (Below.heap_alloc _ _ b hbl).trans hb, Ft, hs, hD⟩)
  exact AnyZ.sorted_in Try.sorted55 Fence.wide 5 trivial trivial trivial trivial rfl (by omega) (Try.sorts55 _) (enters_of Try.func65 (by kernel_rfl) rfl) 66 #[.pointer (some ⟨w.heap.size, 0, none⟩)] trivial (enters_of Try.func66 (by kernel_rfl) rfl) _ _ hmax hbytes _ hseq

theorem leB_of_kl {s t : Str} (h : kl s t) : leB s.data.toList t.data.toList = true := by
  unfold kl at h
  rw [ByteArray.toList_eq, ByteArray.toList_eq] at h
  simp only [leB, decide_eq_true_eq]
  exact List.le_of_lt h
theorem keys_math {w : World} {b n N M : Nat} {D : DataW Value} {T : Nat → Prop} {E : List Ent} (h : Lp w b n D T (lk E) (gk E)) (hf : Fine E N M) (hks : ∀ e ∈ E, e.1.size ≤ maxLen) {ss : List (List UInt8)} (hp : ss.Perm (strKeys D)) :
    (ss.mergeSort (fun x y => decide (x ≤ y))).map encStr = (E.map Prod.fst).map Value.string ∧ ss.length = E.length := by
  obtain ⟨K0, hK0⟩ : ∃ K0, E.map (fun e => e.1.data.toList) = K0 := ⟨_, rfl⟩
  have hlt : E.Pairwise (fun a b => a.1.data.toList ≠ b.1.data.toList) := hf.ups.imp (fun {a b} hk (e : a.1.data.toList = b.1.data.toList) => kl_ne hk ((str_ext _ _).1 (by rw [ByteArray.toList_eq, ByteArray.toList_eq]; exact e)))
  have hnd : K0.Nodup := by rw [← hK0]; exact List.pairwise_map.2 hlt
  have hso : K0.Pairwise (fun a b => leB a b = true) := by rw [← hK0]; exact List.pairwise_map.2 (hf.ups.imp (fun hk => leB_of_kl hk))
  have hperm : K0.Perm (strKeys D) := by
    obtain ⟨es, hD, hpw, _⟩ := h.map.entries mlaw
    obtain ⟨es', hD', hko⟩ := h.map.keysOf
    obtain rfl : es = es' := by rw [hD] at hD'; simpa using hD'
    have hh := h.has
    subst hD
    refine perm_strKeys hpw (fun p hp => by obtain ⟨v, hv⟩ := hko p hp; obtain ⟨x, _, hx, _⟩ := Maps.keyOf_str Try.underlying9 hv; exact ⟨x, hx⟩) hnd (fun x => ?_)
    constructor
    · intro hx
      rw [← hK0] at hx
      obtain ⟨e, he, rfl⟩ := List.mem_map.1 hx
      have h1 := hh e.1 (hks e he)
      have h2 := lk_of_mem hf.ups he
      rw [show gk E e.1 = true from decide_eq_true (by rw [h2]; exact hf.full e he)] at h1
      exact h1
    · intro hx
      have hl : x.length ≤ maxLen := by
        rw [has_eq, List.any_eq_true] at hx
        obtain ⟨p, hp', hs⟩ := hx
        obtain ⟨v, hv⟩ := hko p hp'
        rw [WideAt.sameKey_eq hs] at hv
        obtain ⟨y, _, hy, hl⟩ := Maps.keyOf_str Try.underlying9 hv
        cases hy
        exact hl
      have h1 := hh ⟨x.toArray⟩ (by simpa [ByteArray.size] using hl)
      have e1 : mkey ⟨x.toArray⟩ = Lit.string x := by simp [mkey]
      rw [e1, hx] at h1
      have h2 : lk E ⟨x.toArray⟩ ≠ [] := of_decide_eq_true h1.symm
      have h3 := lk_mem h2
      rw [← hK0]
      exact List.mem_map.2 ⟨_, h3, by simp⟩
  have hsort : ss.mergeSort leB = K0 := by
    rw [mergeSort_of_perm (hp.trans hperm.symm)]
    refine List.Perm.eq_of_pairwise (le := fun a b => leB a b = true) (fun a b _ _ h1 h2 => ?_) (List.pairwise_mergeSort (fun a b c h1 h2 => by simp only [leB, decide_eq_true_eq] at *; exact List.le_trans h1 h2) (fun a b => by simp only [leB, Bool.or_eq_true, decide_eq_true_eq]; exact List.le_total a b) K0) hso (List.mergeSort_perm K0 leB)
    simp only [leB, decide_eq_true_eq] at h1 h2
    exact List.le_antisymm h1 h2
  refine ⟨?_, by rw [(hp.trans hperm.symm).length_eq, ← hK0]; simp⟩
  have : ss.mergeSort (fun x y => decide (x ≤ y)) = K0 := hsort
  rw [this, ← hK0, List.map_map, List.map_map]
  apply List.map_congr_left
  intro e _
  simp [encStr]
set_option maxHeartbeats 2000000 in
set_option maxRecDepth 100000 in
theorem keys_any (w : World) (p b n : Nat) (D : DataW Value) (T : Nat → Prop) (E : List Ent) (h : Ix w p b n D T E) (hf : Fine E 1000 10000) (hn : n ≤ 1000) :
    Calls Try.prog 36 #[.pointer (some ⟨p, 0, none⟩)] w fun e w' => ∃ a c, e = .returned (.slice a E.length c) ∧ HasT w' a E.length c (E.map Prod.fst) ∧ Below w.heap.size w w' := by
  have hsz := h.lp.map.size_le
  have hown := h.lp.map
  refine (callsIn_wide (n := 6)).1 ?_
  have V := hide (callsIn_wide.2 (void_made w p b h.box) : CallsIn Fence.wide 5 Try.prog 42 _ _ _)
  have c0 := cell_row h.box 0 (v := .map (some b)) rfl
  have hmath : Hid (∀ ss : List (List UInt8), ss.Perm (strKeys D) → (ss.mergeSort (fun x y => decide (x ≤ y))).map encStr = (E.map Prod.fst).map Value.string ∧ ss.length = E.length) := fun ss hp => keys_math h.lp hf h.ks hp
  have S := hide (Try.sorted_keys b n D sv w hown (by unfold maxLen; omega) (by omega))
  have hfV : Fence.wide.fn 42 := trivial
  have hfK : Fence.wide.fn 56 := trivial
  have hfS : Fence.wide.fn 55 := trivial
  have B0 : Hid (Below w.heap.size w (w.alloc (.cells #[.map (some b)] 66))) := (Below.refl _ w).alloc (Nat.le_refl _) _
  clear h hf hown
  refine callsIn_of_wp Try.func36 rfl trivial ?_ rfl
  simp only [Try.ntmps36, List.size_toArray, List.length_cons, List.length_nil, Nat.reduceAdd, Nat.reduceSub, Array.replicate_succ, Array.replicate_zero, List.push_toArray, List.append_toArray, List.nil_append, List.cons_append]
  gi_wp2_with (first
    | (gi_at_call 42; refine V.out.mono ?_; rintro e w1 ⟨rfl, rfl⟩)
    | (gi_at_call 56; refine (Try.maps_Keys_56 _ _).mono ?_; rintro e w' ⟨rfl, rfl⟩)
    | (gi_at_call 55; refine S.out.mono ?_; rintro e w' ⟨v, ss, rfl, hS, hrow, hnil, hb⟩; obtain ⟨hm1, hm2⟩ := hmath.out ss hS; rw [hm1, hm2] at hrow; obtain ⟨a, c, rfl⟩ : ∃ a c, v = .slice a E.length c := (by rcases hrow.2 with ⟨rfl, h0⟩ | ⟨g, cap, cur, rfl, _⟩; rw [h0]; exact ⟨_, _, rfl⟩; exact ⟨_, _, rfl⟩); replace hrow := hide (hasT_of_owns hrow); replace hb := hide (B0.out.trans (hb.mono (by simp))); clear hnil hS hm1 hm2))
  go_ret
  exact ⟨a, c, rfl, hrow.out, hb.out⟩
end Go.Proofs.Ythkfbdcocnhebaa
