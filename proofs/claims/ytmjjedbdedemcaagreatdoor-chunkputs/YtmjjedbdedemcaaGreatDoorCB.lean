/-
  Check sums: the register byte by byte.
-/
import Derived.Test.YtmjjedbdedemcaaGreatDoorCA
import Derived.RangeFuncNested
import Derived.RangeFuncBound
import Derived.RangeFuncCalls
import Derived.RangeFuncLeaves
import Derived.RangeFuncFrom
import Derived.Shelf.Abstract
import Derived.Shelf.RegionOpen
import Derived.OwnWalkIn
import Derived.TacticsInMore
import Derived.LoopNIn
import Derived.LoopIn
namespace Go.Proofs.YtmjjedbdedemcaaGreatDoor
open Go.RowKit
set_option linter.unusedVariables false

attribute [local go_sem] Oper.semAt_some

/-- The registers behind the first k bytes. -/
def regs (r : Nat) (l : List Int) (k : Nat) : List Nat := (List.range k).map (fun j => reg r (l.take (j + 1)))
theorem regs_succ (r : Nat) (l : List Int) (k : Nat) : regs r l (k + 1) = regs r l k ++ [reg r (l.take (k + 1))] := by simp [regs, List.range_succ]
theorem regs_length (r : Nat) (l : List Int) (k : Nat) : (regs r l k).length = k := by simp [regs]
theorem take_next (l : List Int) (k : Nat) (h : k < l.length) : l.take (k + 1) = l.take k ++ [l.getD k 0] := by
  rw [List.take_add_one, List.getElem?_eq_getElem h]
  simp [List.getD, List.getElem?_eq_getElem h]
theorem reg_next (r : Nat) (l : List Int) (k : Nat) (h : k < l.length) : reg r (l.take (k + 1)) = Sn 8 (reg r (l.take k) ^^^ (l.getD k 0).toNat) := by
  rw [take_next l k h, reg_snoc]
/-- The last of them. -/
def lastOf (d : Nat) (pre : List Nat) : Nat := pre.getLast?.getD d
theorem lastOf_snoc (d : Nat) (pre : List Nat) (x : Nat) : lastOf d (pre ++ [x]) = x := by simp [lastOf]
theorem lastOf_regs (r : Nat) (l : List Int) : lastOf r (regs r l l.length) = reg r l := by
  cases h : l.length with
  | zero => rw [List.eq_nil_of_length_eq_zero h]; rfl
  | succ k => rw [regs_succ, lastOf_snoc, ← h, List.take_length]

theorem getD_byteC {l : List Int} (h : ∀ x ∈ l, 0 ≤ x ∧ x ≤ 255) (k : Nat) (hk : k < l.length) : 0 ≤ l.getD k 0 ∧ l.getD k 0 ≤ 255 := by
  have : l.getD k 0 = l[k] := by simp [List.getD, List.getElem?_eq_getElem hk]
  rw [this]; exact h _ (List.getElem_mem hk)
theorem take_bytes {l : List Int} (h : ∀ x ∈ l, 0 ≤ x ∧ x ≤ 255) (k : Nat) : ∀ x ∈ l.take k, 0 ≤ x ∧ x ≤ 255 := fun x hx => h x (List.mem_of_mem_take hx)

set_option maxHeartbeats 1000000 in
theorem registers_in (n : Nat) (x : Int) (a : Option Addr) (len cap : Nat) (w : World) :
    CallsIn Fence.wide n Tryz.prog 97 #[.int .u32 x, .slice a len cap] w fun e w' => e = .returned (.func (.func 104) #[] #[.pointer (some ⟨w.heap.size, 0, none⟩), .pointer (some ⟨w.heap.size + 1, 0, none⟩)]) ∧ w' = (w.alloc (.cells #[.int .u32 x] 94)).alloc (.cells #[.slice a len cap] 24) := by
  refine callsIn_of_wp Tryz.func97 rfl trivial ?_ rfl
  simp only [Tryz.ntmps97, List.size_toArray, List.length_cons, List.length_nil, Nat.reduceAdd, Nat.reduceSub, Array.replicate_succ, Array.replicate_zero, List.push_toArray, List.append_toArray, List.nil_append, List.cons_append]
  gi_wp2
  go_ret
  exact ⟨rfl, rfl⟩

set_option maxRecDepth 100000 in
set_option maxHeartbeats 2000000 in
theorem registers1_nil (n : Nat) (l B1 B2 : Nat) (r : Int) (a : Option Addr) (cap : Nat) (J : List Nat → World → Prop) (W : World) (hB1 : W.cell? ⟨B1, 0, none⟩ = some (.int .u32 r)) (hB2 : W.cell? ⟨B2, 0, none⟩ = some (.slice a 0 cap)) (h0 : J [] W) :
    CallsIn Fence.wide n Tryz.prog 104 #[.func (.yield l) #[] #[], .pointer (some ⟨B1, 0, none⟩), .pointer (some ⟨B2, 0, none⟩)] W fun e W' => (∃ v, e = .returned v) ∧ J [] W' := by
  refine callsIn_of_wp Tryz.func104 rfl trivial ?_ rfl
  simp only [Tryz.ntmps104, List.size_toArray, List.length_cons, List.length_nil, Nat.reduceAdd, Nat.reduceSub, Array.replicate_succ, Array.replicate_zero, List.push_toArray, List.append_toArray, List.nil_append, List.cons_append]
  gi_wp2
  gi_loopw [10] (fun i wr => i = .int .i64 0 ∧ J [] wr) (fun _ _ => 0)
  case atStart => exact ⟨rfl, h0⟩
  case round =>
    obtain ⟨rfl, hJs⟩ := hrel
    gi_wp2
    go_end0
    exact ⟨⟨_, rfl⟩, hJs⟩

set_option maxRecDepth 100000 in
set_option maxHeartbeats 4000000 in
theorem registers1_in (n : Nat) (hn : 1 ≤ n) (l B1 B2 n₀ b off len cap r : Nat) (zs : List Int) (hl : zs.length = len) (hcap : len ≤ maxLen) (hb : b < n₀) (hbytes : ∀ x ∈ zs, 0 ≤ x ∧ x ≤ 255) (hr : r < 4294967296) (J Jx : List Nat → World → Prop)
    (hY : ∀ pre (x : Nat) W, J pre W → pre.length < len → YieldAt Fence.wide (n - 1) Tryz.prog l #[.int .u32 (x : Int)] W fun e W' =>
      (e = .returned (.bool true) ∧ J (pre ++ [x]) W' ∧ Below n₀ W W') ∨ (e = .returned (.bool false) ∧ Jx (pre ++ [x]) W'))
    (W : World) (ht : Tab W) (hn0 : 1 < n₀) (hB1 : W.cell? ⟨B1, 0, none⟩ = some (.int .u32 (r : Int))) (hB2 : W.cell? ⟨B2, 0, none⟩ = some (.slice (some ⟨b, off, none⟩) len cap)) (hc : ∀ j, j < len → W.cell? ⟨b, off + j, none⟩ = some (.int .u8 (zs.getD j 0))) (h0 : J [] W) :
    CallsIn Fence.wide n Tryz.prog 104 #[.func (.yield l) #[] #[], .pointer (some ⟨B1, 0, none⟩), .pointer (some ⟨B2, 0, none⟩)] W fun e W' => (∃ v, e = .returned v) ∧
      ((∃ ys, ys = regs r zs len ∧ J ys W') ∨ (∃ pre, True ∧ Jx pre W')) := by
  unfold maxLen at hcap
  have ht := hide ht
  have hbytes := hide hbytes
  refine callsIn_of_wp Tryz.func104 rfl trivial ?_ rfl
  simp only [Tryz.ntmps104, List.size_toArray, List.length_cons, List.length_nil, Nat.reduceAdd, Nat.reduceSub, Array.replicate_succ, Array.replicate_zero, List.push_toArray, List.append_toArray, List.nil_append, List.cons_append]
  gi_wp2
  gi_loopw [4, 10] (fun v i wr => ∃ k y : Nat, k ≤ len ∧ i = .int .i64 k ∧ v = .int .u32 (y : Int) ∧ Hid (y = reg r (zs.take k)) ∧ J (regs r zs k) wr ∧ Below n₀ W wr)
    (fun _ i _ => len - (intOf i).toNat)
  case atStart => exact ⟨0, r, Nat.zero_le _, rfl, rfl, rfl, h0, Below.refl _ _⟩
  case round =>
    obtain ⟨k, y, hk, rfl, rfl, hy, hJs, hnx⟩ := hrel
    by_cases hlt : k < len
    · have hby := getD_byteC hbytes.out k (by omega)
      have hyl : y < 4294967296 := by rw [hy.out]; exact reg_lt hr (take_bytes hbytes.out k)
      have hnew : Hid (Sn 8 (y ^^^ (zs.getD k 0).toNat) = reg r (zs.take (k + 1))) := by
        have := reg_next r zs k (by omega)
        rw [← hy.out] at this
        exact this.symm
      have hcx : wr.cell? ⟨b, off + k, none⟩ = some (.int .u8 (zs.getD k 0)) := (hnx.cell (p := ⟨b, off + k, none⟩) hb).trans (hc k hlt)
      have hst := hide (step_any y (zs.getD k 0) wr hyl hby (ht.out.kept hnx hn0))
      obtain ⟨z, hz⟩ : ∃ z, Sn 8 (y ^^^ (zs.getD k 0).toNat) = z := ⟨_, rfl⟩
      rw [hz] at hst hnew
      generalize zs.getD k 0 = c at hcx hst hby
      clear hz
      obtain ⟨fn, tmps, assign, body, hy', hR⟩ := hY _ z wr hJs (by rw [regs_length]; exact hlt)
      gi_wp2
      refine ⟨trivial, (callsIn_wide.2 hst.out).mono ?_⟩
      rintro e w' ⟨rfl, rfl⟩
      gi_wp2
      refine hR.mono ?_
      rintro e W3 (⟨rfl, hJ3, hk3⟩ | ⟨rfl, hJx3⟩)
      · gi_wp2
        go_roundw
        case rel => exact ⟨k + 1, z, by omega, by go_num, rfl, hnew, by rw [regs_succ, ← hnew.out]; exact hJ3, hnx.trans hk3⟩
        case measure => simp [intOf]; omega
      · gi_wp2
        refine bodyPost_ret (results_none rfl _ _ _) rfl ?_
        exact ⟨⟨_, rfl⟩, .inr ⟨_, trivial, hJx3⟩⟩
    · obtain rfl : k = len := by omega
      gi_wp2
      go_end0
      exact ⟨⟨_, rfl⟩, .inl ⟨_, rfl, hJs⟩⟩

theorem registers_stops (n : Nat) (hn : 1 ≤ n) (B1 B2 n₀ r : Nat) (a : Option Addr) (len cap : Nat) (zs : List Int) (w : World) (hB1 : B1 < w.heap.size) (hB2 : B2 < w.heap.size) (hn₀ : n₀ ≤ w.heap.size) (hn0 : 1 < n₀) (hr : r < 4294967296)
    (hc1 : w.cell? ⟨B1, 0, none⟩ = some (.int .u32 (r : Int))) (hc2 : w.cell? ⟨B2, 0, none⟩ = some (.slice a len cap)) (ht : Tab w) (w0 : World) (hh : Has w0 a len cap zs) (hw0 : w0.heap.size = n₀) (hb0 : Below n₀ w0 w) :
    SeqStopsK Fence.wide n Tryz.prog 104 #[.pointer (some ⟨B1, 0, none⟩), .pointer (some ⟨B2, 0, none⟩)] (fun x : Nat => #[Value.int .u32 (x : Int)]) (Below n₀) (fun ys => ys = regs r zs zs.length) (fun _ => True) zs.length w := fun l J Jx W hW _ _ hY h0 => by
  have hc1' := (hW.cell (p := ⟨B1, 0, none⟩) hB1).trans hc1
  have hc2' := (hW.cell (p := ⟨B2, 0, none⟩) hB2).trans hc2
  have hlen := hh.hlen
  by_cases hp : 0 < len
  · obtain ⟨b, off, rfl, hb, hcs⟩ := hh.cells hp
    rw [hlen] at hY ⊢
    refine registers1_in n hn l B1 B2 n₀ b off len cap r zs hlen (Nat.le_trans hh.le hh.capb) (by omega) hh.bytes hr J Jx hY W (ht.kept hW (by omega)) hn0 hc1' hc2' (fun j hj => ?_) h0
    have hbb := hb0.trans (hW.mono hn₀)
    exact (hbb.cell (p := ⟨b, off + j, none⟩) (by show b < n₀; omega)).trans (hcs j hj)
  · obtain rfl : len = 0 := by omega
    refine (registers1_nil n l B1 B2 r a cap J W hc1' hc2' h0).mono fun e W' ⟨he, hj⟩ => ⟨he, .inl ⟨_, ?_, hj⟩⟩
    rw [hlen]; rfl

theorem cell_alloc_l {W : World} {a : Addr} {v : Value} (o : Obj) (h : W.cell? a = some v) : (W.alloc o).cell? a = some v := cell_kept h (World.grownBy_alloc W o none) (fun r e => by cases e)
theorem frozen_alloc_l {W : World} {a : Addr} {v : Value} (o : Obj) (h : W.cell? a = some v) (hf : W.frozen? a = false) : (W.alloc o).frozen? a = false := (frozen_kept h (World.grownBy_alloc W o none) (fun r e => by cases e)).trans hf
theorem box_l {W : World} {B : Nat} {v : Value} {t : TypeId} (h : W.heap[B]? = some (.cells #[v] t (0, 0))) : W.cell? ⟨B, 0, none⟩ = some v ∧ W.frozen? ⟨B, 0, none⟩ = false := ⟨by simp [World.cell?, h], by simp [World.frozen?, h]⟩
theorem cell_new_l (W : World) (v : Value) (t : TypeId) : (W.alloc (.cells #[v] t)).cell? ⟨W.heap.size, 0, none⟩ = some v ∧ (W.alloc (.cells #[v] t)).frozen? ⟨W.heap.size, 0, none⟩ = false :=
  box_l (World.alloc_heap_new W _)
theorem inv_bits {s : Nat} (hs : s < 4294967296) : bits .xor .u32 IntKind.u32.max (s : Int) = ((inv s : Nat) : Int) := by
  have h := u32_xor_nat 4294967295 s (by decide) hs
  unfold inv
  rw [Nat.xor_comm, ← h]
  rfl

set_option maxRecDepth 100000 in
set_option maxHeartbeats 2000000 in
theorem more_in (n : Nat) (hn : 3 ≤ n) (s : Nat) (hs : s < 4294967296) (a : Option Addr) (len cap : Nat) (l : List Int) (w : World) (h : Has w a len cap l) (ht : Tab w) :
    CallsIn Fence.wide n Tryz.prog 74 #[.int .u32 (s : Int), .slice a len cap] w fun e w' => e = .returned (.int .u32 (more s l : Nat)) ∧ Below w.heap.size w w' := by
  have h1 : 1 ≤ n := by omega
  have ht := hide ht
  have hH := hide h
  clear h
  have hi := inv_bits hs
  have hlt := inv_lt hs
  obtain ⟨v, hv⟩ : ∃ v, inv s = v := ⟨_, rfl⟩
  have hm : Hid (more s l = inv (reg v l)) := by rw [← hv]; rfl
  rw [hv] at hi hlt
  have hrl : Hid (reg v l < 4294967296) := reg_lt hlt hH.out.bytes
  clear hv hs
  refine callsIn_of_wp_marks Tryz.func74 rfl trivial ?_ rfl
  simp only [Tryz.ntmps74, List.size_toArray, List.length_cons, List.length_nil, Nat.reduceAdd, Nat.reduceSub, Array.replicate_succ, Array.replicate_zero, List.push_toArray, List.append_toArray, List.nil_append, List.cons_append]
  gi_wp2
  refine ⟨trivial, (registers_in (n - 1) _ _ _ _ _).mono ?_⟩
  rintro e w' ⟨rfl, rfl⟩
  gi_wp2
  have hs := cell_new_l w (.int .u32 (v : Int)) 94
  have c1 := cell_new_l (w.alloc (.cells #[.int .u32 (v : Int)] 94)) (.int .u32 (v : Int)) 94
  have c2 := cell_new_l ((w.alloc (.cells #[.int .u32 (v : Int)] 94)).alloc (.cells #[.int .u32 (v : Int)] 94)) (.slice a len cap) 24
  simp only [World.size_alloc] at c1 c2
  have hB0 : Below w.heap.size w (((w.alloc (.cells #[.int .u32 (v : Int)] 94)).alloc (.cells #[.int .u32 (v : Int)] 94)).alloc (.cells #[.slice a len cap] 24)) := (((Below.refl _ w).alloc (Nat.le_refl _) _).alloc (by simp) _).alloc (by simp; omega) _
  refine wpIn_rangeFunc_ownF rfl h1 (gf := 104) (lb := #[.pointer (some ⟨w.heap.size + 1, 0, none⟩), .pointer (some ⟨w.heap.size + 1 + 1, 0, none⟩)]) rfl trivial (enters_of Tryz.func104 (by kernel_rfl) rfl)
    (registers_stops (n - 1) (by omega) (w.heap.size + 1) (w.heap.size + 1 + 1) w.heap.size v a len cap l _ (by simp) (by simp) (by simp; omega) ht.out.pos hlt (cell_alloc_l _ c1.1) c2.1 (ht.out.kept hB0 ht.out.pos) w hH.out rfl hB0) belowK_t (belowK_b (by simp; omega)) (Below.refl _ _) (fun _ => rfl)
    (fun pre W => (W.cell? ⟨w.heap.size, 0, none⟩ = some (.int .u32 ((lastOf v pre : Nat) : Int)) ∧ W.frozen? ⟨w.heap.size, 0, none⟩ = false) ∧ Below w.heap.size w W)
    (fun _ _ _ => False)
    (OwnFrom.and (Own.from (fun s A B row hs hg hr => ⟨cell_kept hs.1 hg hr, (frozen_kept hs.1 hg hr).trans hs.2⟩) _) (ownFrom_below (Nat.le_refl _) (by simp; omega)))
    (fun _ _ _ _ _ hs _ _ => hs)
    ⟨⟨cell_alloc_l _ (cell_alloc_l _ hs.1), frozen_alloc_l _ (cell_alloc_l _ hs.1) (frozen_alloc_l _ hs.1 hs.2)⟩, hB0⟩
    (fun x => { tmps := #[.int .u32 (s : Int), .slice a len cap, undef, undef, .int .u32 0, .pointer (some ⟨w.heap.size, 0, none⟩), .int .u32 (x : Int), .int .u32 (s : Int), .int .u32 (v : Int), .int .u32 (v : Int), .slice a len cap, .func (.func 104) #[] #[.pointer (some ⟨w.heap.size + 1, 0, none⟩), .pointer (some ⟨w.heap.size + 1 + 1, 0, none⟩)], .int .u32 (x : Int), undef, undef, undef], defers := [] }) ?assign ?body ?done ?stop
  case assign =>
    intro l x W K hK
    gi_wp2
    exact hK
  case body =>
    rintro l pre x W ⟨⟨hc, hf⟩, hB⟩ _
    gi_wp2
    exact ⟨KeepsOthers.setCell _ _ _, (Below.refl w.heap.size W).setCell (p := ⟨w.heap.size, 0, none⟩) (Nat.le_refl _) _, ⟨by rw [lastOf_snoc]; exact World.cell?_setCell_same' _ _ _ (by rw [hc]; rfl), by rw [World.frozen?_setCell]; exact hf⟩, hB.setCell (p := ⟨w.heap.size, 0, none⟩) (Nat.le_refl _) _⟩
  case done =>
    rintro D ys W hD rfl ⟨⟨hc, _⟩, hB⟩ hK
    rw [lastOf_regs] at hc
    have hi2 := inv_bits hrl.out
    rw [← hm.out] at hi2
    generalize reg v l = z at hi2 hc
    gi_wp2
    refine ⟨by simp, .inl ⟨_, _, rfl, run_takeDeferred hK, ?_⟩⟩
    exact ⟨_, results_tmp rfl _ _ _, rfl, hB.trans (belowK_b (w := w) (Nat.le_refl _) W D _ _ (by simp at hD; omega) hK rfl rfl)⟩
  case stop =>
    rintro D c pre W _ _ h _
    exact h.elim

theorem more_any (s : Nat) (hs : s < 4294967296) (a : Option Addr) (len cap : Nat) (l : List Int) (w : World) (h : Has w a len cap l) (ht : Tab w) :
    Calls Tryz.prog 74 #[.int .u32 (s : Int), .slice a len cap] w fun e w' => e = .returned (.int .u32 (more s l : Nat)) ∧ Below w.heap.size w w' :=
  callsIn_wide.1 (more_in 3 (by omega) s hs a len cap l w h ht)

set_option maxHeartbeats 400000 in
theorem sum_any (a : Option Addr) (len cap : Nat) (l : List Int) (w : World) (h : Has w a len cap l) (ht : Tab w) :
    Calls Tryz.prog 54 #[.slice a len cap] w fun e w' => e = .returned (.int .u32 (more 0 l : Nat)) ∧ Below w.heap.size w w' := by
  have hm := hide (more_any 0 (by decide) a len cap l w h ht)
  clear h ht
  go_enter Tryz.func54, Tryz.ntmps54
  go_wp2_with fail
  refine hm.out.mono ?_
  rintro e w1 ⟨rfl, B1⟩
  go_wp2
  go_ret
  exact ⟨rfl, B1⟩

theorem inv_bits2 {s : Nat} (hs : s < 4294967296) : bits .xor .u32 (s : Int) 4294967295 = ((inv s : Nat) : Int) := by
  have h := u32_xor_nat s 4294967295 hs (by decide)
  unfold inv
  rw [← h]
  rfl

set_option maxHeartbeats 1000000 in
theorem rmore_any (s : Nat) (hs : s < 4294967296) (a : Option Addr) (len cap : Nat) (l : List Int) (w : World) (h : Has w a len cap l) :
    Calls Tryz.prog 61 #[.int .u32 (s : Int), .slice a len cap] w fun e w' => e = .returned (.int .u32 (more s l : Nat)) ∧ w' = w := by
  have hi := inv_bits2 hs
  have hlt := inv_lt hs
  obtain ⟨v, hv⟩ : ∃ v, inv s = v := ⟨_, rfl⟩
  have hm : Hid (more s l = inv (reg v l)) := by rw [← hv]; rfl
  rw [hv] at hi hlt
  clear hv hs
  have hbytes := hide h.bytes
  have hl := h.hlen
  have hle := h.le
  have hcap := h.capb
  unfold maxLen at hcap
  have hcells := hide h.cells
  clear h
  go_enter Tryz.func61, Tryz.ntmps61
  go_wp2
  go_loop [5, 6] (fun r i => ∃ k y : Nat, k ≤ len ∧ i = .int .i64 k ∧ r = .int .u32 (y : Int) ∧ Hid (y = reg v (l.take k))) (fun _ i => len - (intOf i).toNat)
  case atStart => exact ⟨0, v, Nat.zero_le _, rfl, rfl, rfl⟩
  case round =>
    obtain ⟨k, y, hk, rfl, rfl, hy⟩ := hrel
    have hyl : y < 4294967296 := by rw [hy.out]; exact reg_lt hlt (take_bytes hbytes.out k)
    by_cases hkl : k < len
    · obtain ⟨b, off, rfl, hb, hc⟩ := hcells.out (by omega)
      have hby := getD_byteC hbytes.out k (by omega)
      have hcx := hc k hkl
      have hx := xor_in hyl hby
      have hst := hide (rstep_any (y ^^^ (l.getD k 0).toNat) w (xor_byte_lt hyl hby))
      have hnew : Hid (Sn 8 (y ^^^ (l.getD k 0).toNat) = reg v (l.take (k + 1))) := by
        have := reg_next v l k (by omega)
        rw [← hy.out] at this
        exact this.symm
      clear hc
      generalize y ^^^ (l.getD k 0).toNat = q at hx hst hnew
      generalize l.getD k 0 = c at hcx hby hx
      go_wp2_with fail
      refine hst.out.mono ?_
      rintro e w1 ⟨rfl, rfl⟩
      go_wp2
      go_round
      case rel => exact ⟨k + 1, _, by omega, by go_num, rfl, hnew⟩
      case measure => simp [intOf]; omega
    · obtain rfl : k = len := by omega
      have hi2 := inv_bits2 hyl
      have hm2 : ((inv y : Nat) : Int) = ((more s l : Nat) : Int) := by rw [hm.out, hy.out, ← hl, List.take_length]
      rw [hm2] at hi2
      clear hm2
      go_wp2
      go_ret
      exact ⟨rfl, rfl⟩

set_option maxHeartbeats 400000 in
theorem rsum_any (a : Option Addr) (len cap : Nat) (l : List Int) (w : World) (h : Has w a len cap l) :
    Calls Tryz.prog 47 #[.slice a len cap] w fun e w' => e = .returned (.int .u32 (more 0 l : Nat)) ∧ w' = w := by
  have hm := hide (rmore_any 0 (by decide) a len cap l w h)
  clear h
  go_enter Tryz.func47, Tryz.ntmps47
  go_wp2_with fail
  refine hm.out.mono ?_
  rintro e w1 ⟨rfl, rfl⟩
  go_wp2
  go_ret
  exact ⟨rfl, rfl⟩

end Go.Proofs.YtmjjedbdedemcaaGreatDoor
