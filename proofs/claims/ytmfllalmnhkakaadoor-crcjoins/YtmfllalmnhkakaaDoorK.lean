/-
  A row of bytes of one's own, written cell by cell; the walk of base.Among; what turned bits make of a sum.
-/
import Derived.Test.YtmfllalmnhkakaaDoorJ
namespace Go.Proofs.YtmfllalmnhkakaaDoor
open Go.RowKit
set_option linter.unusedVariables false

/-- The block g has the bytes l first. -/
def RowB (w : World) (g n : Nat) (l : List Int) : Prop := ∃ cur : Array Value, w.heap[g]? = some (.cells cur 5 (0, 0)) ∧ n ≤ cur.size ∧ cur.toList.take n = l.map (Value.int .u8)
theorem RowB.len {w : World} {g n : Nat} {l : List Int} (h : RowB w g n l) : l.length = n := by
  obtain ⟨cur, _, h2, h3⟩ := h
  have := congrArg List.length h3
  simp at this
  omega
theorem RowB.at {w : World} {g n : Nat} {l : List Int} (h : RowB w g n l) (i : Nat) (hi : i < n) : w.cell? ⟨g, i, none⟩ = some (.int .u8 (l.getD i 0)) := by
  have hl := h.len
  obtain ⟨cur, h1, h2, h3⟩ := h
  rw [cell_of_row w g i cur 5 (0, 0) h1]
  have := congrArg (fun x : List Value => x[i]?) h3
  simp only [List.getElem?_take, if_pos hi, List.getElem?_map, Array.getElem?_toList] at this
  rw [this, List.getElem?_eq_getElem (by omega)]
  simp [List.getD, List.getElem?_eq_getElem (show i < l.length by omega)]
theorem RowB.frozen {w : World} {g n : Nat} {l : List Int} (h : RowB w g n l) (i : Nat) : w.frozen? ⟨g, i, none⟩ = false := by
  obtain ⟨cur, h1, _⟩ := h
  exact frozen_of_row w g i cur 5 h1
theorem RowB.set {w : World} {g n : Nat} {l : List Int} (h : RowB w g n l) (i : Nat) (x : Int) : RowB (w.setCell ⟨g, i, none⟩ (.int .u8 x)) g n (l.set i x) := by
  obtain ⟨cur, h1, h2, h3⟩ := h
  refine ⟨_, heap_setCell_same w g i cur 5 _ h1, by simpa using h2, ?_⟩
  rw [Array.toList_setIfInBounds, List.take_set, h3, List.map_set]
theorem RowB.lt {w : World} {g n : Nat} {l : List Int} (h : RowB w g n l) : g < w.heap.size := by
  obtain ⟨cur, h1, _⟩ := h
  exact (Array.getElem?_eq_some_iff.1 h1).1
theorem RowB.has {w : World} {g n cap : Nat} {l : List Int} (h : RowB w g n l) (hc : n ≤ cap) (hm : cap ≤ maxLen) (hb : ∀ x ∈ l, 0 ≤ x ∧ x ≤ 255) : Has w (some ⟨g, 0, none⟩) n cap l :=
  ⟨h.len, hc, hm, (fun e => by cases e), fun _ => ⟨g, 0, rfl, h.lt, fun i hi => by rw [Nat.zero_add]; exact h.at i hi⟩, hb⟩
theorem rowB_of_owns {w : World} {base : Nat} {v : Value} {n : Nat} {l : List Int} (h : w.ownsRow base 5 1 v n (l.map (Value.int .u8))) (hn : 0 < n) : ∃ g cap, v = .slice (some ⟨g, 0, none⟩) n cap ∧ base ≤ g ∧ n ≤ cap ∧ cap ≤ maxLen ∧ RowB w g n l := by
  rcases h.2 with ⟨rfl, rfl⟩ | ⟨g, cap, cur, rfl, hbg, hg, hnc, hcm, hcs, htake⟩
  · omega
  · exact ⟨g, cap, rfl, hbg, hnc, hcm, cur, hg, by omega, by simpa using htake⟩

theorem among_val (x : Int) (n : Nat) (h1 : 1 ≤ n) : 0 ≤ (IntKind.u64.wrap x).tmod (n : Int) ∧ (IntKind.u64.wrap x).tmod (n : Int) < (n : Int) := by
  rw [IntKind.wrap_u64]
  have h : 0 ≤ x % 18446744073709551616 := Int.emod_nonneg _ (by decide)
  rw [Int.tmod_eq_emod_of_nonneg h]
  exact ⟨Int.emod_nonneg _ (by omega), Int.emod_lt_of_pos _ (by omega)⟩
theorem among_wrap (y : Int) {n : Nat} (v : 0 ≤ y ∧ y < (n : Int)) (h2 : n ≤ 9223372036854775807) : wrap64 y = ((y.toNat : Nat) : Int) := by
  unfold wrap64
  omega

set_option maxHeartbeats 400000 in
theorem among_any (x : Int) (n : Nat) (hx : -9223372036854775808 ≤ x ∧ x ≤ 9223372036854775807) (h1 : 1 ≤ n) (h2 : n ≤ 9223372036854775807) (w : World) :
    Calls Tryd.prog 26 #[.int .i64 x, .int .i64 (n : Int)] w fun e w' => ∃ r : Nat, e = .returned (.int .i64 (r : Int)) ∧ r < n ∧ w' = w := by
  have hn : (1 : Int) ≤ (n : Int) := by omega
  have hn' : (n : Int) ≤ 9223372036854775807 := by omega
  go_enter Tryd.func26, Tryd.ntmps26
  go_wp2
  go_ret
  have v := among_val x n h1
  exact ⟨_, ret_int (among_wrap _ v h2), by omega, rfl⟩

/-- One bit turned in a byte. -/
theorem xor_bit {c : Int} {s : Nat} (hc : 0 ≤ c ∧ c ≤ 255) (hs : s < 8) : bits .xor .u8 c ((2 ^ s : Nat) : Int) = ((c.toNat ^^^ 2 ^ s : Nat) : Int) := by
  have h := u8_xor_nat c.toNat (2 ^ s) (by omega) (by have : 2 ^ s ≤ 2 ^ 7 := Nat.pow_le_pow_right (by decide) (by omega); omega)
  rwa [Int.toNat_of_nonneg hc.1] at h
theorem xor_bit_byte {c : Int} {s : Nat} (hc : 0 ≤ c ∧ c ≤ 255) (hs : s < 8) : c.toNat ^^^ 2 ^ s ≤ 255 := by
  have : c.toNat ^^^ 2 ^ s < 2 ^ 8 := Nat.xor_lt_two_pow (by omega) (Nat.pow_lt_pow_right (by decide) hs)
  omega
theorem set_bytes {l : List Int} (h : ∀ x ∈ l, 0 ≤ x ∧ x ≤ 255) (i : Nat) (y : Nat) (hy : y ≤ 255) : ∀ x ∈ l.set i (y : Int), 0 ≤ x ∧ x ≤ 255 := by
  intro x hx
  rcases List.mem_or_eq_of_mem_set hx with h1 | h1
  · exact h x h1
  · omega
/-- With k of the bits turned the register is this. -/
def Turned (l l' : List Int) (at' bits k : Nat) : Prop := l'.length = l.length ∧ (∀ x ∈ l', 0 ≤ x ∧ x ≤ 255) ∧ reg 4294967295 l' = reg 4294967295 l ^^^ Sn (8 * l.length - at') (bits % 2 ^ k)
theorem turned_start {l : List Int} (h : ∀ x ∈ l, 0 ≤ x ∧ x ≤ 255) (p b : Nat) : Turned l l p b 0 := ⟨rfl, h, by rw [Nat.pow_zero, Nat.mod_one, Sn_zero, Nat.xor_zero]⟩
theorem Turned.no {l l' : List Int} {p b k : Nat} (h : Turned l l' p b k) (hk : k < 32) (hp : p + 32 ≤ 8 * l.length) (hb : b / 2 ^ k % 2 = 0) : Turned l l' p b (k + 1) := by
  refine ⟨h.1, h.2.1, ?_⟩
  rw [h.2.2, turn_step _ k b hk (by omega), if_neg (by omega), Nat.xor_zero]
theorem Turned.yes {l l' : List Int} {p b k : Nat} (h : Turned l l' p b k) (hk : k < 32) (hp : p + 32 ≤ 8 * l.length) (hb : b / 2 ^ k % 2 = 1) :
    Turned l (l'.set ((p + k) / 8) (((l'.getD ((p + k) / 8) 0).toNat ^^^ 2 ^ ((p + k) % 8) : Nat) : Int)) p b (k + 1) := by
  have hq : (p + k) / 8 < l'.length := by rw [h.1]; omega
  refine ⟨by simp [h.1], set_bytes h.2.1 _ _ (xor_bit_byte (getD_byte h.2.1 _ hq) (Nat.mod_lt _ (by decide))), ?_⟩
  rw [reg_turn _ l' _ _ hq (Nat.mod_lt _ (by decide)), h.2.2, turn_step _ k b hk (by omega), if_pos hb, Nat.xor_assoc, h.1]
  congr 3
  omega
/-- In the end the sum is another one. -/
theorem turned_end {l l' : List Int} {p b : Nat} (h : Turned l l' p b 32) (hb : b < 4294967296) (h0 : b ≠ 0) : more 0 l' ≠ more 0 l := by
  intro e
  have e1 : reg 4294967295 l' = reg 4294967295 l := by
    have := congrArg inv e
    unfold more at this
    rw [inv_inv, inv_inv] at this
    exact this
  rw [h.2.2, Nat.mod_eq_of_lt hb] at e1
  have e2 : Sn (8 * l.length - p) b = 0 := by
    have := congrArg (fun z => reg 4294967295 l ^^^ z) e1
    simpa [← Nat.xor_assoc] using this
  exact h0 (Sn_eq_zero _ hb e2)
end Go.Proofs.YtmfllalmnhkakaaDoor
