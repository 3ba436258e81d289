/-
  A sector in memory: the walks of put and join.
-/
import Derived.Test.YtbaclihlckfndaaDoorD
import Derived.Test.YtbaclihlckfndaaDoorE
import Derived.Laws.Tables
namespace Go.Proofs.YtbaclihlckfndaaDoor
open Go.RowKit
set_option linter.unusedVariables false

/-- The block g has a sector's bytes. -/
structure Sec (w : World) (g : Nat) (L : List Int) : Prop where
  row : w.heap[g]? = some (.cells (L.map (Value.int .u8)).toArray 55 (0, 0))
  len : L.length = 256
  byts : Byts L
theorem Sec.cell {w : World} {g : Nat} {L : List Int} (h : Sec w g L) (j : Nat) (hj : j < 256) : w.cell? ⟨g, j, none⟩ = some (.int .u8 (L.getD j 0)) := by
  rw [cell_of_row w g j _ 55 (0, 0) h.row]
  have := h.len
  simp [List.getD, List.getElem?_eq_getElem (show j < L.length by omega)]
theorem Sec.frozen {w : World} {g : Nat} {L : List Int} (h : Sec w g L) (j : Nat) : w.frozen? ⟨g, j, none⟩ = false := frozen_of_row w g j _ 55 h.row
theorem Sec.lt {w : World} {g : Nat} {L : List Int} (h : Sec w g L) : g < w.heap.size := (Array.getElem?_eq_some_iff.1 h.row).1
theorem Sec.kept {w w' : World} {B g : Nat} {L : List Int} (h : Sec w g L) (hb : Below B w w') (hg : g < B) : Sec w' g L := ⟨(hb.block g hg).trans h.row, h.len, h.byts⟩
theorem Sec.set {w : World} {g : Nat} {L : List Int} (h : Sec w g L) (k : Nat) (x : Int) (hx : 0 ≤ x ∧ x ≤ 255) : Sec (w.setCell ⟨g, k, none⟩ (.int .u8 x)) g (L.set k x) := by
  refine ⟨?_, by simpa using h.len, fun y hy => ?_⟩
  · have := heap_setCell_same w g k _ 55 (.int .u8 x) h.row
    rwa [show ((L.map (Value.int .u8)).toArray).setIfInBounds k (.int .u8 x) = ((L.set k x).map (Value.int .u8)).toArray by simp [List.map_set]] at this
  · rcases List.mem_or_eq_of_mem_set hy with h1 | h1
    · exact h.byts y h1
    · omega
theorem Sec.has {w : World} {g : Nat} {L : List Int} (h : Sec w g L) (off n cap : Nat) (hn : off + n ≤ 256) (hc : n ≤ cap) (hm : cap ≤ maxLen) : Has w (some ⟨g, off, none⟩) n cap ((L.drop off).take n) := by
  have hl := h.len
  refine ⟨by simp; omega, hc, hm, (fun e => by cases e), fun _ => ⟨g, off, rfl, h.lt, fun i hi => ?_⟩, (h.byts.drop off).take n⟩
  rw [h.cell (off + i) (by omega)]
  simp [List.getD, hi]

/-- A piece of a list, written anew. -/
def lay (L : List Int) (off : Nat) (m : List Int) : List Int := L.take off ++ (m ++ L.drop (off + m.length))
theorem lay_len {L : List Int} {off : Nat} {m : List Int} (h : off + m.length ≤ L.length) : (lay L off m).length = L.length := by simp [lay]; omega
theorem lay_nil (L : List Int) (off : Nat) : lay L off [] = L := by simp [lay]
theorem lay_set (L : List Int) (off : Nat) (m : List Int) (x : Int) (h : off + m.length < L.length) : (lay L off m).set (off + m.length) x = lay L off (m ++ [x]) := by
  unfold lay
  have e1 : (L.take off).length = off := by simp; omega
  rw [List.set_append_right _ _ (by rw [e1]; omega), e1, show off + m.length - off = m.length by omega, List.set_append_right _ _ (Nat.le_refl _), Nat.sub_self]
  have e2 : L.drop (off + m.length) = L.getD (off + m.length) 0 :: L.drop (off + m.length + 1) := by
    rw [List.drop_eq_getElem_cons h]
    simp [List.getD, List.getElem?_eq_getElem h]
  rw [e2]
  simp [Nat.add_assoc]

set_option maxHeartbeats 1000000 in
theorem put_any (w : World) (g off n cap v : Nat) (L : List Int) (h : Sec w g L) (hn : off + n ≤ 256) (h4 : n ≤ 4) (hv : v < 9223372036854775808) :
    Calls Tryd.prog 32 #[.slice (some ⟨g, off, none⟩) n cap, .int .i64 (v : Int)] w fun e w' => (∃ x, e = .returned x) ∧ Sec w' g (lay L off (bytesN v n)) ∧ w'.heap.size = w.heap.size ∧ Below g w w' := by
  have hl := h.len
  go_enter Tryd.func32, Tryd.ntmps32
  go_wp2
  go_loopw [7, 4] (fun i x wr => ∃ k : Nat, k ≤ n ∧ i = .int .i64 k ∧ Sec wr g (lay L off (bytesN v k)) ∧ wr.heap.size = w.heap.size ∧ Below g w wr) (fun i x _ => n - (intOf i).toNat)
  case atStart => exact ⟨0, Nat.zero_le _, rfl, by simpa [bytesN, lay_nil] using h, rfl, Below.refl _ _⟩
  case round =>
    obtain ⟨k, hk, rfl, hS, hz, hB⟩ := hrel
    by_cases hkn : k < n
    · have c1 := hS.cell (off + k) (by omega)
      have c2 := hS.frozen (off + k)
      go_wp2
      rw [byte_cast]
      go_roundw
      case rel =>
        refine ⟨k + 1, by omega, by go_num, ?_, by simpa using hz, hB.setCell (p := ⟨g, off + k, none⟩) (Nat.le_refl _) _⟩
        have := hS.set (off + k) ((byteOf v k : Nat) : Int) (by have := byte_lt v k; omega)
        have e := lay_set L off (bytesN v k) ((byteOf v k : Nat) : Int) (by rw [bytesN_len]; omega)
        rw [bytesN_len] at e
        rw [e, ← bytesN_succ] at this
        exact this
      case measure => simp [intOf]; omega
    · obtain rfl : k = n := by omega
      go_wp2
      go_end0
      exact ⟨⟨_, rfl⟩, hS, hz, hB⟩

theorem i64_or_nat (a b : Nat) (ha : a < 4294967296) (hb : b < 4294967296) : bits .or .i64 (a : Int) (b : Int) = ((a ||| b : Nat) : Int) := by
  have hx : a ||| b < 2 ^ 32 := Nat.or_lt_two_pow (by omega) (by omega)
  show IntKind.i64.wrap ((BitVec.ofInt 64 (a : Int) ||| BitVec.ofInt 64 (b : Int)).toNat : Int) = _
  rw [BitVec.toNat_or, ofInt_u64 a (by omega), ofInt_u64 b (by omega), IntKind.wrap_i64]
  omega
theorem or_i64 {y k : Nat} {c : Int} (hk : k < 4) (hy : y < 2 ^ (8 * k)) (hc : 0 ≤ c ∧ c ≤ 255) : bits .or .i64 (y : Int) (wrap64 (c * 2 ^ (8 * k))) = ((y + 2 ^ (8 * k) * c.toNat : Nat) : Int) := by
  obtain ⟨d, rfl⟩ : ∃ d : Nat, c = d := ⟨c.toNat, by omega⟩
  have hd : d ≤ 255 := by omega
  have hp : 2 ^ (8 * k) ≤ 2 ^ 24 := Nat.pow_le_pow_right (by decide) (by omega)
  have hm : d * 2 ^ (8 * k) ≤ 255 * 2 ^ 24 := Nat.mul_le_mul hd hp
  have e : wrap64 ((d : Int) * 2 ^ (8 * k)) = ((d * 2 ^ (8 * k) : Nat) : Int) := by
    have : (d : Int) * 2 ^ (8 * k) = ((d * 2 ^ (8 * k) : Nat) : Int) := by simp
    rw [this]
    unfold wrap64
    omega
  rw [e, i64_or_nat y (d * 2 ^ (8 * k)) (by omega) (by omega), Nat.or_comm, nat_join (8 * k) (d * 2 ^ (8 * k)) y (Nat.mul_mod_left _ _) hy, Int.toNat_natCast, Nat.add_comm, Nat.mul_comm]

set_option maxHeartbeats 1000000 in
theorem join_any (w : World) (a : Option Addr) (len cap : Nat) (l : List Int) (h : Has w a len cap l) (h4 : len ≤ 4) :
    Calls Tryd.prog 38 #[.slice a len cap] w fun e w' => e = .returned (.int .i64 (numK l len : Nat)) ∧ w' = w := by
  have hl := h.hlen
  have hbytes := hide h.bytes
  have hcells := hide h.cells
  clear h
  go_enter Tryd.func38, Tryd.ntmps38
  go_wp2
  go_loop [3, 8, 4, 5] (fun r i x y => ∃ k z : Nat, k ≤ len ∧ i = .int .i64 k ∧ r = .int .i64 (z : Int) ∧ Hid (z = numK l k)) (fun _ i _ _ => len - (intOf i).toNat)
  case atStart => exact ⟨0, 0, Nat.zero_le _, rfl, rfl, rfl⟩
  case round =>
    obtain ⟨k, z, hk, rfl, rfl, hz⟩ := hrel
    by_cases hkl : k < len
    · obtain ⟨b, off, rfl, hb, hc⟩ := hcells.out (by omega)
      have hby := getD_byte hbytes.out k (by omega)
      have hcx := hc k hkl
      have hlt : z < 2 ^ (8 * k) := by rw [hz.out]; exact numK_lt hbytes.out k (by omega)
      have ho := hide (or_i64 (by omega) hlt hby)
      have hnew : Hid (z + 2 ^ (8 * k) * (l.getD k 0).toNat = numK l (k + 1)) := by show _ = _; rw [hz.out]; rfl
      clear hc
      generalize l.getD k 0 = c at hcx hby ho hnew
      go_wp2
      go_round
      case rel => exact ⟨k + 1, _, by omega, by go_num, v64 ho.out, hnew⟩
      case measure => simp [intOf]; omega
    · obtain rfl : k = len := by omega
      go_wp2
      go_ret
      exact ⟨by rw [hz.out]; rfl, rfl⟩
end Go.Proofs.YtbaclihlckfndaaDoor
