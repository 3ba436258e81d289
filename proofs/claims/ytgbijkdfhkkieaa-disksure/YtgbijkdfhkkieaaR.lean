/-
  The names of a directory, rising (maps.Keys, slices.Sorted: the shelf's contracts, laid at this program), given one by one (slices.Values).
-/
import Derived.Shelf.SlIter.Nil
import Derived.Shelf.SortM.Plain
import Derived.Shelf.SortM.SortNone
import Derived.Ground.GgzProg
import Derived.Ground.SlgmProg
import Derived.RangeFuncNested
import Derived.RangeFuncBound
import Derived.RangeFuncCalls
import Derived.RangeFuncLeaves
import Derived.RangeFuncWrites
import Derived.Shelf.Abstract
import Derived.Shelf.RegionOpen
import Derived.OwnWalkIn
import Derived.TacticsInMore
import Derived.LoopNIn
import Derived.LoopIn
import Derived.Test.YtgbijkdfhkkieaaQ
namespace Go.Proofs.Ytgbijkdfhkkieaa
open Go.RowKit Go.Maps Go.Sort Go.Shelf
set_option linter.unusedVariables false
set_option linter.unusedSimpArgs false
attribute [local go_sem] Oper.semAt_some
shelf_lay_g SlLaysZ.n7 Ggz 7 at Try 64 as Try.keys64
shelf_lay_g SlLaysZ.n6 Ggz 6 at Try 63 as Try.sorted63
shelf_lay_g SlLaysM.n6 Slgm 6 at Try 82 as Try.sort82

/-- slices.Sort's two contracts at this dump, at the fence that asks nothing. -/
theorem Try.sorts63 (m : Nat) : AnyZ.SortsIn Try.prog Try.sorted63_ren Fence.wide m :=
  ⟨fun blk off cap ss W hH hblk hsz => callsIn_wide.2 (AnyM.slices_Sort_string Try.sort82 blk off cap ss W hH hblk hsz),
   fun p cap W => callsIn_wide.2 (AnyM.slices_Sort_string_none Try.sort82 p cap W)⟩

/-- **maps.Keys[tidepole/disk.directory,string,*tidepole/disk.file], at whatever map, the nil one too:** a function value over ONE NEW BLOCK, which holds the map. -/
theorem Try.maps_Keys_64 (mb : Option Nat) (W : World) : CallsIn Fence.wide 5 Try.prog 64 #[.map mb] W fun e w' => e = .returned (.func (.func 83) #[] #[.pointer (some ⟨W.heap.size, 0, none⟩)]) ∧ w' = W.alloc (.cells #[.map mb] 62) :=
  AnyZ.keys_in Try.keys64 Fence.wide 5 trivial rfl mb W

set_option maxHeartbeats 1000000 in
/-- **slices.Sorted[string] AT WHAT maps.Keys[tidepole/disk.directory,string,*tidepole/disk.file] HANDED BACK FOR A MAP THAT IS NOT nil** ('w': the world AHEAD of maps.Keys' call): A NEW SLICE THAT HOLDS THE MAP's KEYS, SORTED; nil just where it has none; nothing that lay before has turned. -/
theorem Try.slices_Sorted_keys_63_64 {H : Type} (b nn : Nat) (D0 : DataW H) (R : Value → Option (DataW H × List MemPlace)) (w : World) (hown : w.ownsMap Try.prog 9 R b nn D0) (hmax : Maps.size D0 ≤ maxLen) (hbytes : Maps.size D0 * 16 ≤ 140737488355328) :
    CallsIn Fence.wide 5 Try.prog 63 #[.func (.func 83) #[] #[.pointer (some ⟨w.heap.size, 0, none⟩)]] (w.alloc (.cells #[.map (some b)] 62)) fun e w' => ∃ (v : Value) (ss : List (List UInt8)), e = .returned v ∧ ss.Perm (strKeys D0) ∧
      w'.ownsRow (w.alloc (.cells #[.map (some b)] 62)).heap.size 9 1 v ss.length ((ss.mergeSort (fun x y => decide (x ≤ y))).map encStr) ∧ (v = .slice none 0 0 ↔ ss = []) ∧ Below (w.alloc (.cells #[.map (some b)] 62)).heap.size (w.alloc (.cells #[.map (some b)] 62)) w' := by
  have hbl := hown.lt
  have hseq : SeqGives Fence.wide 2 Try.prog 83 #[.pointer (some ⟨w.heap.size, 0, none⟩)] encStr (fun ss => ss.Perm (strKeys D0)) (Maps.size D0) (w.alloc (.cells #[.map (some b)] 62)) :=
    AnyZ.keys_gives (ρ := Try.keys64_ren) { Try.keys64 with } Fence.wide _ trivial rfl (by omega) w.heap.size b nn D0 _ (by simp) (by simp) (by
      obtain ⟨es, clock, hb, Ft, hs, hD⟩ := hown
      exact ⟨es, clock, (Below.heap_alloc _ _ b hbl).trans hb, Ft, hs, hD⟩)
  exact AnyZ.sorted_in Try.sorted63 Fence.wide 5 trivial trivial trivial trivial rfl (by omega) (Try.sorts63 _) (enters_of Try.func82 (by kernel_rfl) rfl) 83 #[.pointer (some ⟨w.heap.size, 0, none⟩)] trivial (enters_of Try.func83 (by kernel_rfl) rfl) _ _ hmax hbytes _ hseq


/-- The blocks b1 and b2 lie as they lay. -/
def KpB (b1 b2 : Nat) (W W' : World) : Prop := W'.heap[b1]? = W.heap[b1]? ∧ W'.heap[b2]? = W.heap[b2]?
theorem KpB.trans {b1 b2 : Nat} {A B C : World} (h : KpB b1 b2 A B) (k : KpB b1 b2 B C) : KpB b1 b2 A C := ⟨k.1.trans h.1, k.2.trans h.2⟩
theorem KpB.refl (b1 b2 : Nat) (A : World) : KpB b1 b2 A A := ⟨rfl, rfl⟩
theorem cell_eq {A B : World} {b : Nat} (h : B.heap[b]? = A.heap[b]?) (i : Nat) : B.cell? ⟨b, i, none⟩ = A.cell? ⟨b, i, none⟩ := by unfold World.cell?; simp only [h]
set_option maxRecDepth 100000 in
set_option maxHeartbeats 2000000 in
theorem values1_in {α : Type} (nm : α → List UInt8) (n : Nat) (hn : 1 ≤ n) (l Bs b len cap : Nat) (zs : List α) (hz : zs.length = len) (hreach : len ≤ 1099511627776) (J Jx : List α → World → Prop)
    (hY : ∀ pre x W, J pre W → pre.length < len → YieldAt Fence.wide (n - 1) Try.prog l #[encStr (nm x)] W fun e W' =>
      (e = .returned (.bool true) ∧ J (pre ++ [x]) W' ∧ KpB Bs b W W') ∨ (e = .returned (.bool false) ∧ Jx (pre ++ [x]) W'))
    (W : World) (hBs : W.cell? ⟨Bs, 0, none⟩ = some (.slice (some ⟨b, 0, none⟩) len cap)) (hc : ∀ j (h : j < zs.length), W.cell? ⟨b, j, none⟩ = some (encStr (nm zs[j]))) (h0 : J [] W) :
    CallsIn Fence.wide n Try.prog 81 #[.func (.yield l) #[] #[], .pointer (some ⟨Bs, 0, none⟩)] W fun e W' => (∃ v, e = .returned v) ∧ ((∃ ys, ys = zs ∧ J ys W') ∨ (∃ pre, True ∧ Jx pre W')) := by
  replace hz := hide hz
  replace hc := hide hc
  refine callsIn_of_wp Try.func81 rfl trivial ?_ rfl
  simp only [Try.ntmps81, List.size_toArray, List.length_cons, List.length_nil, Nat.reduceAdd, Nat.reduceSub, Array.replicate_succ, Array.replicate_zero, List.push_toArray, List.append_toArray, List.nil_append, List.cons_append]
  gi_wp2
  gi_loopw [7] (fun i wr => ∃ k : Nat, k ≤ len ∧ i = .int .i64 k ∧ J (zs.take k) wr ∧ Hid (KpB Bs b W wr)) (fun i _ => len - (RowKit.intOf i).toNat)
  case atStart => exact ⟨0, Nat.zero_le _, rfl, by simpa using h0, KpB.refl _ _ _⟩
  case round =>
    obtain ⟨k, hk, rfl, hJs, hnx⟩ := hrel
    by_cases hlt : k < len
    · have hkl : k < zs.length := by rw [hz.out]; exact hlt
      obtain ⟨x, hx⟩ : ∃ x, zs[k] = x := ⟨_, rfl⟩
      obtain ⟨fn, tmps, assign, body, hy, hR⟩ := hY _ x wr hJs (by rw [List.length_take, hz.out]; omega)
      have hcx : wr.cell? ⟨b, k, none⟩ = some (encStr (nm x)) := by rw [cell_eq hnx.out.2, hc.out k hkl, hx]
      have ht : Hid (zs.take k ++ [x] = zs.take (k + 1)) := by rw [← hx]; exact (List.take_succ_eq_append_getElem hkl).symm
      replace hx := hide hx
      gi_wp2
      refine hR.mono ?_
      rintro e W3 (⟨rfl, hJ3, hk3⟩ | ⟨rfl, hJx3⟩)
      · replace hk3 := hide hk3
        gi_wp2
        go_roundw
        case rel => exact ⟨k + 1, by omega, by simp, by rw [← ht.out]; exact hJ3, hnx.out.trans hk3.out⟩
        case measure => simp [RowKit.intOf]; omega
      · gi_wp2
        refine bodyPost_ret (results_none rfl _ _ _) rfl ?_
        exact ⟨⟨_, rfl⟩, .inr ⟨_, trivial, hJx3⟩⟩
    · obtain rfl : k = len := by omega
      gi_wp2
      go_end0
      exact ⟨⟨_, rfl⟩, .inl ⟨_, rfl, by rw [List.take_of_length_le (by rw [hz.out]; exact Nat.le_refl _)] at hJs; exact hJs⟩⟩
set_option maxRecDepth 100000 in
set_option maxHeartbeats 1000000 in
theorem values1_nil_in {α : Type} (n : Nat) (l Bs : Nat) (J : List α → World → Prop) (W : World) (hBs : W.cell? ⟨Bs, 0, none⟩ = some (.slice none 0 0)) (h0 : J [] W) :
    CallsIn Fence.wide n Try.prog 81 #[.func (.yield l) #[] #[], .pointer (some ⟨Bs, 0, none⟩)] W fun e W' => (∃ v, e = .returned v) ∧ J [] W' := by
  refine callsIn_of_wp Try.func81 rfl trivial ?_ rfl
  simp only [Try.ntmps81, List.size_toArray, List.length_cons, List.length_nil, Nat.reduceAdd, Nat.reduceSub, Array.replicate_succ, Array.replicate_zero, List.push_toArray, List.append_toArray, List.nil_append, List.cons_append]
  gi_wp2
  gi_loopw [7] (fun i wr => i = .int .i64 0 ∧ J [] wr) (fun _ _ => 0)
  case atStart => exact ⟨rfl, h0⟩
  case round =>
    obtain ⟨rfl, hJs⟩ := hrel
    gi_wp2
    go_end0
    exact ⟨⟨_, rfl⟩, hJs⟩
/-- A box with a slice of the names zs, in a row of its own. -/
def Nrow (w : World) (Bs b : Nat) (zs : List (List UInt8)) : Prop :=
  Bs < w.heap.size ∧ ((w.cell? ⟨Bs, 0, none⟩ = some (.slice none 0 0) ∧ zs = []) ∨ ∃ cap, w.cell? ⟨Bs, 0, none⟩ = some (.slice (some ⟨b, 0, none⟩) zs.length cap) ∧ b < w.heap.size ∧ ∀ j (h : j < zs.length), w.cell? ⟨b, j, none⟩ = some (encStr zs[j]))
theorem values_stops {α : Type} (nm : α → List UInt8) (n : Nat) (hn : 1 ≤ n) (Bs b : Nat) (zs : List α) (hreach : zs.length ≤ 1099511627776) (w : World) (h : Nrow w Bs b (zs.map nm)) :
    SeqStopsK Fence.wide n Try.prog 81 #[.pointer (some ⟨Bs, 0, none⟩)] (fun x : α => #[encStr (nm x)]) (KpB Bs b) (fun ys => ys = zs) (fun _ => True) zs.length w := fun l J Jx W hW _ _ hY h0 => by
  obtain ⟨hB, ⟨h1, h2⟩ | ⟨cap, h1, h2, h3⟩⟩ := h
  · have hz : zs = [] := by simpa using h2
    subst hz
    exact (values1_nil_in n l Bs J W ((hW.cell (p := ⟨Bs, 0, none⟩) hB).trans h1) h0).mono fun e W' ⟨he, hj⟩ => ⟨he, .inl ⟨_, rfl, hj⟩⟩
  · rw [List.length_map] at h1
    refine values1_in nm n hn l Bs b zs.length cap zs rfl hreach J Jx hY W ((hW.cell (p := ⟨Bs, 0, none⟩) hB).trans h1) (fun j hj => ?_) h0
    refine (hW.cell (p := ⟨b, j, none⟩) h2).trans ?_
    have := h3 j (by simpa using hj)
    simpa using this
set_option maxHeartbeats 1000000 in
theorem values_in (n : Nat) (a : Option Addr) (len cap : Nat) (w : World) :
    CallsIn Fence.wide n Try.prog 62 #[.slice a len cap] w fun e w' => e = .returned (.func (.func 81) #[] #[.pointer (some ⟨w.heap.size, 0, none⟩)]) ∧ w' = w.alloc (.cells #[.slice a len cap] 45) := by
  refine callsIn_of_wp Try.func62 rfl trivial ?_ rfl
  simp only [Try.ntmps62, List.size_toArray, List.length_cons, List.length_nil, Nat.reduceAdd, Nat.reduceSub, Array.replicate_succ, Array.replicate_zero, List.push_toArray, List.append_toArray, List.nil_append, List.cons_append]
  gi_wp2
  go_ret
  exact ⟨rfl, rfl⟩
/-- The names of a directory, rising. -/
def nms (D : DataW Nat) : List (List UInt8) := (strKeys D).mergeSort (fun x y => decide (x ≤ y))
set_option maxHeartbeats 2000000 in
set_option maxRecDepth 100000 in
theorem names_any (w : World) (b nn : Nat) (D : DataW Nat) (hown : w.ownsMap Try.prog 9 pe b nn D) (hn : nn ≤ 1073741824) :
    Calls Try.prog 35 #[.map (some b)] w fun e w' => ∃ Bs br, e = .returned (.func (.func 81) #[] #[.pointer (some ⟨Bs, 0, none⟩)]) ∧ Nrow w' Bs br (nms D) ∧ Below w.heap.size w w' ∧ w.heap.size ≤ Bs ∧ w.heap.size ≤ br ∧ br < w'.heap.size := by
  have hsz := hown.size_le
  refine (callsIn_wide (n := 6)).1 ?_
  have hfK : Fence.wide.fn 64 := trivial
  have hfS : Fence.wide.fn 63 := trivial
  have hfV : Fence.wide.fn 62 := trivial
  refine callsIn_of_wp Try.func35 rfl trivial ?_ rfl
  simp only [Try.ntmps35, List.size_toArray, List.length_cons, List.length_nil, Nat.reduceAdd, Nat.reduceSub, Array.replicate_succ, Array.replicate_zero, List.push_toArray, List.append_toArray, List.nil_append, List.cons_append]
  gi_wp2_with (first
    | (gi_at_call 64; refine (Try.maps_Keys_64 _ _).mono ?_; rintro e w' ⟨rfl, rfl⟩)
    | (gi_at_call 63; refine (Try.slices_Sorted_keys_63_64 b nn D pe w hown (by unfold maxLen; omega) (by omega)).mono ?_; rintro e w' ⟨v, ss, rfl, hS, hrow, hnil, hb⟩; obtain ⟨a, len, cap, rfl⟩ : ∃ a len cap, v = .slice a len cap := (by rcases hrow.2 with ⟨rfl, _⟩ | ⟨g, cap, cur, rfl, _⟩; exact ⟨_, _, _, rfl⟩; exact ⟨_, _, _, rfl⟩))
    | (gi_at_call 62; refine (values_in 5 _ _ _ _).mono ?_; rintro e w'' ⟨rfl, rfl⟩))
  go_ret
  have B0 : Below w.heap.size w (w.alloc (.cells #[.map (some b)] 62)) := (Below.refl _ w).alloc (Nat.le_refl _) _
  have Bw : Below w.heap.size w w' := B0.trans (hb.mono (by simp))
  have Bx' := Bx.new w' 45 #[.slice a len cap]
  have c0 := Bx'.cell 0
  simp only [List.getElem?_toArray, List.getElem?_cons_zero] at c0
  have eq : ss.mergeSort (fun x y => decide (x ≤ y)) = nms D := mergeSort_of_perm hS
  have hlen : (nms D).length = ss.length := by rw [← eq]; simp
  rw [eq] at hrow
  rcases hrow.2 with ⟨e, h0⟩ | ⟨g, cap', cur, e, hbg, hg, h1, h2, h3, h4⟩
  · have hs : nms D = [] := List.eq_nil_of_length_eq_zero (by omega)
    exact ⟨_, w'.heap.size, rfl, ⟨Bx'.lt, .inl ⟨c0.trans (congrArg some e), hs⟩⟩, Bw.alloc Bw.size _, Bw.size, Bw.size, Bx'.lt⟩
  · refine ⟨_, g, rfl, ⟨Bx'.lt, .inr ⟨cap', by rw [hlen]; exact c0.trans (congrArg some e), ?_, fun j hj => ?_⟩⟩, Bw.alloc Bw.size _, Bw.size, by have := B0.size; simp at hbg; omega, by have := (Array.getElem?_eq_some_iff.1 hg).1; simp; omega⟩
    · have := (Array.getElem?_eq_some_iff.1 hg).1
      simp; omega
    · have hgl := (Array.getElem?_eq_some_iff.1 hg).1
      have X : Bx w' g 9 cur := hg
      rw [(X.alloc _).cell j]
      rw [Nat.mul_one] at h4
      have h5 : (cur.toList.take ss.length)[j]? = some (encStr (nms D)[j]) := by rw [h4]; simp [hj]
      rw [List.getElem?_take] at h5
      split at h5
      · simpa using h5
      · cases h5
end Go.Proofs.Ytgbijkdfhkkieaa
