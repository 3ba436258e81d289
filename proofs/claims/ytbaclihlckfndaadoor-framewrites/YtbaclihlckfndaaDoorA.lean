/-
  The walks of the two steps: the register, one byte on.
-/
import Derived.Test.YtbaclihlckfndaaDoorChecked
import Derived.Test.YtbaclihlckfndaaDoorNumB
import Derived.WalkKit
import Derived.WalkLawsBesides
import Derived.Laws.BitsAllLaws
namespace Go.Proofs.YtbaclihlckfndaaDoor
open Go.RowKit
set_option linter.unusedVariables false

theorem hide {p : Prop} (h : p) : Hid p := h

theorem v32 {a b : Int} (h : a = b) : Value.int .u32 a = .int .u32 b := by rw [h]
theorem v64 {a b : Int} (h : a = b) : Value.int .i64 a = .int .i64 b := by rw [h]
theorem ret32 {a b : Int} (h : a = b) : Ending.returned (.int .u32 a) = .returned (.int .u32 b) := by rw [h]
theorem s_odd {y : Nat} (hy : y < 4294967296) (h : ((y : Int) % 2 == 1) = true) : bits .xor .u32 ((y : Int) / 2) 2197175160 = ((S y : Nat) : Int) := by
  have h1 : y % 2 = 1 := by have := beq_iff_eq.1 h; omega
  have := u32_xor_nat (y / 2) 2197175160 (by omega) (by omega)
  unfold S
  rw [h1, Nat.one_mul, ← this]
  rfl
theorem s_evn {y : Nat} (h : ((y : Int) % 2 == 1) = false) : (y : Int) / 2 = ((S y : Nat) : Int) := by
  have h1 : y % 2 = 0 := by have := beq_eq_false_iff_ne.1 h; omega
  unfold S
  rw [h1, Nat.zero_mul, Nat.xor_zero]
  omega
theorem sn_next {k x y : Nat} (hk : k < 8) (h : Sn (8 - k) y = Sn 8 x) : Sn (8 - (k + 1)) (S y) = Sn 8 x := by
  rw [show 8 - k = (8 - (k + 1)) + 1 by omega] at h
  exact h

set_option maxHeartbeats 1000000 in
theorem rstep_any (x : Nat) (w : World) (hx : x < 4294967296) :
    Calls Tryd.prog 42 #[.int .u32 x] w fun e w' => e = .returned (.int .u32 (Sn 8 x : Nat)) ∧ w' = w := by
  go_enter Tryd.func42, Tryd.ntmps42
  go_wp2
  go_loop [0, 3] (fun r i => ∃ k y : Nat, k ≤ 8 ∧ i = .int .i64 k ∧ r = .int .u32 y ∧ y < 4294967296 ∧ Hid (Sn (8 - k) y = Sn 8 x)) (fun _ i => 8 - (intOf i).toNat)
  case atStart => exact ⟨0, x, by omega, rfl, rfl, hx, rfl⟩
  case round =>
    obtain ⟨k, y, hk, rfl, rfl, hy, hs⟩ := hrel
    go_wp2
    · have h1 : ((y : Int) % 2 == 1) = true := by assumption
      have h2 : (k : Int) < 8 := by assumption
      go_round
      case rel => exact ⟨k + 1, S y, by omega, by go_num, v32 (s_odd hy h1), S_lt hy, sn_next (by omega) hs.out⟩
      case measure => simp [intOf]; omega
    · have h1 : ((y : Int) % 2 == 1) = false := by assumption
      have h2 : (k : Int) < 8 := by assumption
      go_round
      case rel => exact ⟨k + 1, S y, by omega, by go_num, v32 (s_evn h1), S_lt hy, sn_next (by omega) hs.out⟩
      case measure => simp [intOf]; omega
    · have h2 : 8 ≤ (k : Int) := by assumption
      go_ret
      refine ⟨ret32 ?_, rfl⟩
      have := hs.out
      rw [show 8 - k = 0 by omega] at this
      rw [← this]; rfl

/-- The table of the program lies in memory as its text lays it. -/
def Tab (w : World) : Prop := ∀ i, i < 16 → w.cell? ⟨0, i, none⟩ = some (.int .u32 ((nib.getD i 0 : Nat) : Int))
theorem Tab.pos {w : World} (h : Tab w) : 0 < w.heap.size := World.block_lt_of_cell? w _ (h 0 (by decide))
theorem Tab.kept {w w' : World} {B : Nat} (h : Tab w) (hb : Below B w w') (hB : 0 < B) : Tab w' := fun i hi => (hb.cell (p := ⟨0, i, none⟩) hB).trans (h i hi)

theorem step_look (y : Nat) (w : World) (hy : y < 4294967296) (ht : Tab w) : ∃ q t : Nat, bits .and .u32 (y : Int) 15 = (q : Int) ∧ q < 16 ∧ w.cell? ⟨0, q, none⟩ = some (.int .u32 (t : Int)) ∧ Hid (bits .xor .u32 ((y : Int) / 16) (t : Int) = ((Sn 4 y : Nat) : Int)) := by
  refine ⟨y % 16, nib.getD (y % 16) 0, ?_, Nat.mod_lt _ (by decide), ht _ (Nat.mod_lt _ (by decide)), ?_⟩
  · have := u32_and_nat y 15 hy (by omega)
    rw [nat_mask4] at this
    exact this
  · have := u32_xor_nat (y / 16) (nib.getD (y % 16) 0) (by omega) (nib_lt _)
    rw [step4] at this
    exact this
theorem xor_in {x : Nat} {b : Int} (hx : x < 4294967296) (hb : 0 ≤ b ∧ b ≤ 255) : bits .xor .u32 (x : Int) b = ((x ^^^ b.toNat : Nat) : Int) := by
  have := u32_xor_nat x b.toNat hx (by omega)
  rwa [Int.toNat_of_nonneg hb.1] at this
theorem sn_next4 {k z y : Nat} (hk : k < 2) (h : Sn (8 - 4 * k) y = z) : Sn (8 - 4 * (k + 1)) (Sn 4 y) = z := by
  rw [← Sn_add, show 8 - 4 * (k + 1) + 4 = 8 - 4 * k by omega]
  exact h

set_option maxHeartbeats 1000000 in
theorem step_any (x : Nat) (b : Int) (w : World) (hx : x < 4294967296) (hb : 0 ≤ b ∧ b ≤ 255) (ht : Tab w) :
    Calls Tryd.prog 44 #[.int .u32 x, .int .u8 b] w fun e w' => e = .returned (.int .u32 (Sn 8 (x ^^^ b.toNat) : Nat)) ∧ w' = w := by
  have ht := hide ht
  have hb := hide hb
  go_enter Tryd.func44, Tryd.ntmps44
  have hb0 : 0 ≤ b := hb.out.1
  have hb1 : b ≤ 255 := hb.out.2
  go_wp2
  go_loop [0, 9] (fun r i => ∃ k y : Nat, k ≤ 2 ∧ i = .int .i64 k ∧ r = .int .u32 y ∧ y < 4294967296 ∧ Hid (Sn (8 - 4 * k) y = Sn 8 (x ^^^ b.toNat))) (fun _ i => 2 - (intOf i).toNat)
  case atStart => exact ⟨0, x ^^^ b.toNat, by omega, rfl, v32 (xor_in hx hb.out), xor_byte_lt hx hb.out, rfl⟩
  case round =>
    obtain ⟨k, y, hk, rfl, rfl, hy, hs⟩ := hrel
    obtain ⟨q, t, ha, hq, hc, hn⟩ := step_look y w hy ht.out
    have ha2 : bits .and .u32 (y : Int) 15 < 16 := by rw [ha]; omega
    have ha3 : 0 ≤ bits .and .u32 (y : Int) 15 := by rw [ha]; omega
    go_wp2
    · have h2 : (k : Int) < 2 := by assumption
      go_round
      case rel => exact ⟨k + 1, Sn 4 y, by omega, by go_num, v32 hn.out, Sn_lt 4 hy, sn_next4 (by omega) hs.out⟩
      case measure => simp [intOf]; omega
    · have h2 : 2 ≤ (k : Int) := by assumption
      go_ret
      refine ⟨ret32 ?_, rfl⟩
      have := hs.out
      rw [show 8 - 4 * k = 0 by omega] at this
      rw [← this]; rfl
end Go.Proofs.YtbaclihlckfndaaDoor
