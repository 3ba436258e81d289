/-
  The walk of the reference's Join.
-/
import Derived.Test.YtmfllalmnhkakaaDoorN
namespace Go.Proofs.YtmfllalmnhkakaaDoor
open Go.RowKit
set_option linter.unusedVariables false

/-- A map's cells. -/
def cellsOf (F : Nat → Nat) : List Value := (List.range 32).map (fun j => Value.int .u32 ((F (2 ^ j) : Nat) : Int))
theorem cellsOf_arr (F : Nat → Nat) : (cellsOf F).toArray = arr .u32 32 (fun j => F (2 ^ j)) := rfl
theorem cellsOf_length (F : Nat → Nat) : (cellsOf F).length = 32 := by simp [cellsOf]
theorem cellsOf_one (F : Nat → Nat) : ∀ v ∈ cellsOf F, v.oneCell' = true := by
  intro v hv
  simp [cellsOf] at hv
  obtain ⟨j, _, rfl⟩ := hv
  rfl
theorem rangeAt_of {w : World} {g : Nat} {F : Nat → Nat} (h : Arr w g 51 .u32 32 (fun j => F (2 ^ j))) : w.rangeAt g 0 (cellsOf F) := by
  intro j v hv
  rw [Nat.zero_add, cell_of_row w g j _ 51 (0, 0) h, ← cellsOf_arr]
  simpa using hv
theorem Arr.kept' {w w' : World} {g : Nat} {ty : TypeId} {t : IntKind} {n : Nat} {f : Nat → Nat} (h : Arr w g ty t n f) (hb : Below w.heap.size w w') : Arr w' g ty t n f := h.kept hb h.lt
theorem arr_le {w : World} {g : Nat} {ty : TypeId} {t : IntKind} {n : Nat} {f f' : Nat → Nat} (h : Arr w g ty t n f) (e : ∀ j, j < n → f j = f' j) : Arr w g ty t n f' := by
  unfold Arr; rw [← arr_congr t n e]; exact h

set_option maxRecDepth 100000 in
set_option maxHeartbeats 4000000 in
theorem rjoin_any (a b n : Nat) (ha : a < 4294967296) (hb : b < 4294967296) (hn : n ≤ 9223372036854775807) (w : World) :
    Calls Tryd.prog 25 #[.int .u32 (a : Int), .int .u32 (b : Int), .int .i64 (n : Int)] w fun e w' => e = .returned (.tuple #[.int .u32 ((Sn (8 * n) a ^^^ b : Nat) : Int), .int .i64 0]) ∧ Below w.heap.size w w' := by
  have hn0 : (0 : Int) ≤ (n : Int) := by omega
  go_enter Tryd.func25, Tryd.ntmps25
  go_wp2_with (first
    | (refine wpList_build51 rfl rfl ?_)
    | (refine wpList_alloc51 rfl rfl ?_)
    | (refine wpList_store51 rfl (.tmp 8) (.tmp 15) rfl w.heap.size zeros zeros rfl rfl (arr_new w 51 .u32 32 zeros) ?_
       intro w2 hs2 A2 B2'
       have B2 := hide (B2' w.heap.size w (Nat.le_refl _) ((Below.refl _ _).alloc (Nat.le_refl _) _))
       clear B2' hs2))
  replace A2 := hide A2
  go_loopw [9, 10] (fun b i wr => ∃ (k y : Nat) (f : Nat → Nat), k ≤ 32 ∧ i = .int .i64 k ∧ b = .int .u32 (y : Int) ∧ Hid (k < 32 → y = 2 ^ k) ∧ Hid (Below w.heap.size w wr) ∧ Hid (Arr wr w.heap.size 51 .u32 32 f) ∧ Hid (∀ j, j < k → f j = Sn 8 (2 ^ j))) (fun _ i _ => 32 - (intOf i).toNat)
  case atStart => exact ⟨0, 1, zeros, by omega, rfl, rfl, fun _ => rfl, B2, A2, fun j hj => by omega⟩
  case round =>
    clear A2 B2
    obtain ⟨k, y, f, hk, rfl, rfl, hy, hB, hA, hf⟩ := hrel
    by_cases hk32 : k < 32
    · have hyk := hy.out hk32
      have hy32 : y < 4294967296 := by
        rw [hyk]
        have : (2 : Nat) ^ k ≤ 2 ^ 31 := Nat.pow_le_pow_right (by decide) (by omega)
        omega
      have hst := hide (rstep_any y wr hy32)
      have hc := hA.out.cell k hk32
      have hfz := hA.out.frozen k
      replace hyk := hide hyk
      go_wp2_with fail
      refine hst.out.mono ?_
      rintro e w3 ⟨rfl, rfl⟩
      go_wp2_with fail
      go_roundw
      case rel =>
        refine ⟨k + 1, 2 * y % 4294967296, fun j => if j = k then Sn 8 y else f j, by omega, by go_num, v32 (by omega), fun h => ?_, hB.out.setCell (p := ⟨w.heap.size, k, none⟩) (Nat.le_refl _) _, hA.out.set k _, fun j hj => ?_⟩
        · have e := hyk.out
          have : (2 : Nat) ^ (k + 1) ≤ 2 ^ 31 := Nat.pow_le_pow_right (by decide) (by omega)
          rw [e, Nat.pow_succ] at *
          omega
        · by_cases e : j = k
          · subst e; simp only [if_true]; rw [hyk.out]
          · simp only [e, if_false]; exact hf.out j (by omega)
      case measure => simp [intOf]; omega
    · obtain rfl : k = 32 := by omega
      have hA' : Hid (Arr wr w.heap.size 51 .u32 32 (fun j => Sn 8 (2 ^ j))) := arr_le hA.out (fun j hj => hf.out j hj)
      clear hA hf hy
      have hG := hide (goes_start n ha)
      go_wp2_with fail
      simp only [show ((32 : Nat) : Int) = 32 from rfl]
      go_loopw [0, 2] (fun x i wr => ∃ (y r : Nat) (F : Nat → Nat), r ≤ n ∧ i = .int .i64 r ∧ x = .int .u32 (y : Int) ∧ Hid (Goes n a F y r) ∧ Hid (Below w.heap.size w wr) ∧ Hid (Arr wr w.heap.size 51 .u32 32 (fun j => F (2 ^ j)))) (fun _ i _ => (intOf i).toNat)
      case atStart => exact ⟨a, n, Sn 8, by omega, rfl, rfl, hG, hB, hA'⟩
      case round =>
        clear hA' hG hB
        obtain ⟨y, r, F, hr, rfl, rfl, hG, hB, hA⟩ := hrel
        have hr64 : (r : Int) ≤ 9223372036854775807 := by omega
        by_cases hr0 : 0 < r
        · have hr0' : (0 : Int) < (r : Int) := by omega
          by_cases hodd : r % 2 = 1
          · have ho : ((r : Int) % 2 == 1) = true := by rw [beq_iff_eq]; omega
            go_wp2_with (refine wpList_load51 rfl (.tmp 8) rfl w.heap.size _ rfl hA.out ?_)
            refine (rtimes_any F hG.out.m y hG.out.ha wr).mono ?_
            rintro e w3 ⟨rfl, B3⟩
            have hB3 : Hid (Below w.heap.size w w3) := hB.out.trans (B3.mono hB.out.size)
            have hA3 : Hid (Arr w3 w.heap.size 51 .u32 32 (fun j => F (2 ^ j))) := hA.out.kept B3 hA.out.lt
            have hG2 : Hid (Goes n a (fun v => F (F v)) (F y) (r / 2)) := hG.out.odd hodd
            clear hB hA B3
            obtain ⟨g2, hg2⟩ : ∃ g2, g2 = w3.heap.size := ⟨_, rfl⟩
            have A3n := arr_new w3 51 .u32 32 zeros
            go_wp2_with (first
              | (refine wpList_build51 rfl rfl ?_)
              | (refine wpList_alloc51 rfl rfl ?_)
              | (refine wpList_store51 rfl (.tmp 11) (.tmp 34) rfl w3.heap.size zeros zeros rfl rfl A3n ?_
                 intro w4 hs4 A4 B4'
                 have B4 := hide (B4' w3.heap.size w3 (Nat.le_refl _) ((Below.refl _ _).alloc (Nat.le_refl _) _))
                 clear B4' hs4))
            replace A4 := hide A4
            have hAm : Hid (Arr w4 w.heap.size 51 .u32 32 (fun j => F (2 ^ j))) := hA3.out.kept B4.out hA3.out.lt
            have hlt : w.heap.size < w3.heap.size := hA3.out.lt
            have hB4 : Hid (Below w.heap.size w w4) := hB3.out.trans (B4.out.mono (Nat.le_of_lt hlt))
            clear hA3 hB3 B4 A3n
            rw [← hg2] at hlt A4 ⊢
            replace hlt := hide hlt
            clear hg2
            go_loopw [12] (fun i wr => ∃ (k : Nat) (f : Nat → Nat), k ≤ 32 ∧ i = .int .i64 k ∧ Hid (Below w.heap.size w wr) ∧ Hid (Arr wr w.heap.size 51 .u32 32 (fun j => F (2 ^ j))) ∧ Hid (Arr wr g2 51 .u32 32 f) ∧ Hid (∀ j, j < k → f j = F (F (2 ^ j)))) (fun i _ => 32 - (intOf i).toNat)
            case atStart => exact ⟨0, zeros, by omega, rfl, hB4, hAm, A4, fun j hj => by omega⟩
            case round =>
              clear hB4 hAm A4
              obtain ⟨k, f, hk, rfl, hB, hA, hC, hf⟩ := hrel
              by_cases hk32 : k < 32
              · have hk32' : (k : Int) < 32 := by omega
                have u51 := Tryd.underlying51
                have hz : F (2 ^ k) < 4294967296 := hG.out.m.lt _ (by
                  have : (2 : Nat) ^ k ≤ 2 ^ 31 := Nat.pow_le_pow_right (by decide) (by omega)
                  omega)
                have hcall : Hid (∀ w', Calls Tryd.prog 32 #[.agg (cellsOf F).toArray, .int .u32 ((F (2 ^ k) : Nat) : Int)] w' fun e w'' => e = .returned (.int .u32 ((F (F (2 ^ k)) : Nat) : Int)) ∧ Below w'.heap.size w' w'') := fun w' => rtimes_any F hG.out.m _ hz w'
                have hone := cellsOf_one F
                have hcl := cellsOf_length F
                have hi51 : (Tryd.prog.info? 51).map (·.size) = some (cellsOf F).length := by rw [hcl]; exact info51
                have hr0 : wr.rangeAt w.heap.size 0 (cellsOf F) := rangeAt_of hA.out
                have hc0 := hA.out.cell k hk32
                have hnew : Hid (∀ j, j < k + 1 → (if j = k then F (F (2 ^ k)) else f j) = F (F (2 ^ j))) := fun j hj => by
                  by_cases e : j = k
                  · subst e; simp
                  · simp only [e, if_false]; exact hf.out j (by omega)
                generalize F (2 ^ k) = z at hc0 hcall hnew hz
                generalize F z = zz at hcall hnew
                generalize cellsOf F = cs at hone hcl hi51 hr0 hcall
                have hne : Hid (w.heap.size ≠ g2) := by have := hlt.out; show w.heap.size ≠ g2; omega
                have K1 : Hid (∀ w1 w2 : World, Below w1.heap.size w1 w2 → (w1.rangeAt w.heap.size 0 cs ∧ w1.cell? ⟨w.heap.size, k, none⟩ = some (.int .u32 (z : Int))) → (w2.rangeAt w.heap.size 0 cs ∧ w2.cell? ⟨w.heap.size, k, none⟩ = some (.int .u32 (z : Int)))) := fun w1 w2 hb h => by
                  have hl := World.block_lt_of_cell? w1 _ h.2
                  exact ⟨fun j v hv => (hb.cell (p := ⟨w.heap.size, 0 + j, none⟩) hl).trans (h.1 j v hv), (hb.cell (p := ⟨w.heap.size, k, none⟩) hl).trans h.2⟩
                have K2 : Hid (∀ (w1 : World) (v : Value), (w1.rangeAt w.heap.size 0 cs ∧ w1.cell? ⟨w.heap.size, k, none⟩ = some (.int .u32 (z : Int))) → ((w1.setCell ⟨g2, k, none⟩ v).rangeAt w.heap.size 0 cs ∧ (w1.setCell ⟨g2, k, none⟩ v).cell? ⟨w.heap.size, k, none⟩ = some (.int .u32 (z : Int)))) := fun w1 v h =>
                  ⟨fun j u hu => (World.cell?_of_block (w := w1) (heap_setCell_other w1 ⟨g2, k, none⟩ w.heap.size v hne.out)).trans (h.1 j u hu), (World.cell?_of_block (w := w1) (heap_setCell_other w1 ⟨g2, k, none⟩ w.heap.size v hne.out)).trans h.2⟩
                go_wp2_with fail
                go_region_held3 (fun w' => w'.rangeAt w.heap.size 0 cs ∧ w'.cell? ⟨w.heap.size, k, none⟩ = some (.int .u32 (z : Int))) (first | (exact ⟨hr0, hc0⟩) | (exact K1.out _ _ B5 (by assumption)) | (exact K2.out _ _ (by assumption))) (first
                  | (go_at_call 32; refine (hcall.out _).mono ?_; rintro e w5 ⟨rfl, B5⟩; have B6 : Below wr.heap.size wr w5 := (Below.refl _ wr).drew.trans B5; have c5 := (hC.out.kept' B6).cell k hk32; have f5 := (hC.out.kept' B6).frozen k))
                have hB5 : Hid (Below w.heap.size w w5) := hB.out.trans (B6.mono hB.out.size)
                have hA5 : Hid (Arr w5 w.heap.size 51 .u32 32 (fun j => F (2 ^ j))) := hA.out.kept' B6
                have hC5 : Hid (Arr w5 g2 51 .u32 32 f) := hC.out.kept' B6
                clear K1 K2 hcall hone hcl hi51 hr0 hc0 c5 f5 B5 u51
                go_wp2_with fail
                go_roundw
                case rel =>
                  exact ⟨k + 1, fun j => if j = k then zz else f j, by omega, by go_num, hB5.out.setCell (p := ⟨g2, k, none⟩) (Nat.le_of_lt hlt.out) _, hA5.out.other ⟨g2, k, none⟩ _ hne.out, hC5.out.set k zz, hnew⟩
                case measure => simp [intOf]; omega
              · obtain rfl : k = 32 := by omega
                have hC' : Hid (Arr wr g2 51 .u32 32 (fun j => F (F (2 ^ j)))) := arr_le hC.out hf.out
                clear hC hf
                go_wp2_with (first
                  | (refine wpList_load51 rfl (.tmp 11) rfl g2 _ rfl hC'.out ?_)
                  | (refine wpList_store51 rfl (.tmp 8) (.tmp 46) rfl w.heap.size _ (fun j => F (F (2 ^ j))) rfl rfl hA.out ?_
                     intro w7 hs7 A7 B7'
                     have B7 := hide (B7' w.heap.size w (Nat.le_refl _) hB.out)
                     replace A7 := hide A7
                     clear B7' hs7))
                go_roundw
                case rel => exact ⟨_, r / 2, fun v => F (F v), by omega, v64 (by omega), rfl, hG2, B7, A7⟩
                case measure => simp [intOf]; omega
          · have ho : ((r : Int) % 2 == 1) = false := by rw [beq_eq_false_iff_ne]; omega
            have hB3 := hB
            have hA3 := hA
            have hG2 : Hid (Goes n a (fun v => F (F v)) y (r / 2)) := hG.out.even (by omega)
            clear hB hA
            obtain ⟨g2, hg2⟩ : ∃ g2, g2 = wr.heap.size := ⟨_, rfl⟩
            have A3n := arr_new wr 51 .u32 32 zeros
            go_wp2_with (first
              | (refine wpList_build51 rfl rfl ?_)
              | (refine wpList_alloc51 rfl rfl ?_)
              | (refine wpList_store51 rfl (.tmp 11) (.tmp 34) rfl wr.heap.size zeros zeros rfl rfl A3n ?_
                 intro w4 hs4 A4 B4'
                 have B4 := hide (B4' wr.heap.size wr (Nat.le_refl _) ((Below.refl _ _).alloc (Nat.le_refl _) _))
                 clear B4' hs4))
            replace A4 := hide A4
            have hAm : Hid (Arr w4 w.heap.size 51 .u32 32 (fun j => F (2 ^ j))) := hA3.out.kept B4.out hA3.out.lt
            have hlt : w.heap.size < wr.heap.size := hA3.out.lt
            have hB4 : Hid (Below w.heap.size w w4) := hB3.out.trans (B4.out.mono (Nat.le_of_lt hlt))
            clear hA3 hB3 B4 A3n
            rw [← hg2] at hlt A4 ⊢
            replace hlt := hide hlt
            clear hg2
            go_loopw [12] (fun i wr => ∃ (k : Nat) (f : Nat → Nat), k ≤ 32 ∧ i = .int .i64 k ∧ Hid (Below w.heap.size w wr) ∧ Hid (Arr wr w.heap.size 51 .u32 32 (fun j => F (2 ^ j))) ∧ Hid (Arr wr g2 51 .u32 32 f) ∧ Hid (∀ j, j < k → f j = F (F (2 ^ j)))) (fun i _ => 32 - (intOf i).toNat)
            case atStart => exact ⟨0, zeros, by omega, rfl, hB4, hAm, A4, fun j hj => by omega⟩
            case round =>
              clear hB4 hAm A4
              obtain ⟨k, f, hk, rfl, hB, hA, hC, hf⟩ := hrel
              by_cases hk32 : k < 32
              · have hk32' : (k : Int) < 32 := by omega
                have u51 := Tryd.underlying51
                have hz : F (2 ^ k) < 4294967296 := hG.out.m.lt _ (by
                  have : (2 : Nat) ^ k ≤ 2 ^ 31 := Nat.pow_le_pow_right (by decide) (by omega)
                  omega)
                have hcall : Hid (∀ w', Calls Tryd.prog 32 #[.agg (cellsOf F).toArray, .int .u32 ((F (2 ^ k) : Nat) : Int)] w' fun e w'' => e = .returned (.int .u32 ((F (F (2 ^ k)) : Nat) : Int)) ∧ Below w'.heap.size w' w'') := fun w' => rtimes_any F hG.out.m _ hz w'
                have hone := cellsOf_one F
                have hcl := cellsOf_length F
                have hi51 : (Tryd.prog.info? 51).map (·.size) = some (cellsOf F).length := by rw [hcl]; exact info51
                have hr0 : wr.rangeAt w.heap.size 0 (cellsOf F) := rangeAt_of hA.out
                have hc0 := hA.out.cell k hk32
                have hnew : Hid (∀ j, j < k + 1 → (if j = k then F (F (2 ^ k)) else f j) = F (F (2 ^ j))) := fun j hj => by
                  by_cases e : j = k
                  · subst e; simp
                  · simp only [e, if_false]; exact hf.out j (by omega)
                generalize F (2 ^ k) = z at hc0 hcall hnew hz
                generalize F z = zz at hcall hnew
                generalize cellsOf F = cs at hone hcl hi51 hr0 hcall
                have hne : Hid (w.heap.size ≠ g2) := by have := hlt.out; show w.heap.size ≠ g2; omega
                have K1 : Hid (∀ w1 w2 : World, Below w1.heap.size w1 w2 → (w1.rangeAt w.heap.size 0 cs ∧ w1.cell? ⟨w.heap.size, k, none⟩ = some (.int .u32 (z : Int))) → (w2.rangeAt w.heap.size 0 cs ∧ w2.cell? ⟨w.heap.size, k, none⟩ = some (.int .u32 (z : Int)))) := fun w1 w2 hb h => by
                  have hl := World.block_lt_of_cell? w1 _ h.2
                  exact ⟨fun j v hv => (hb.cell (p := ⟨w.heap.size, 0 + j, none⟩) hl).trans (h.1 j v hv), (hb.cell (p := ⟨w.heap.size, k, none⟩) hl).trans h.2⟩
                have K2 : Hid (∀ (w1 : World) (v : Value), (w1.rangeAt w.heap.size 0 cs ∧ w1.cell? ⟨w.heap.size, k, none⟩ = some (.int .u32 (z : Int))) → ((w1.setCell ⟨g2, k, none⟩ v).rangeAt w.heap.size 0 cs ∧ (w1.setCell ⟨g2, k, none⟩ v).cell? ⟨w.heap.size, k, none⟩ = some (.int .u32 (z : Int)))) := fun w1 v h =>
                  ⟨fun j u hu => (World.cell?_of_block (w := w1) (heap_setCell_other w1 ⟨g2, k, none⟩ w.heap.size v hne.out)).trans (h.1 j u hu), (World.cell?_of_block (w := w1) (heap_setCell_other w1 ⟨g2, k, none⟩ w.heap.size v hne.out)).trans h.2⟩
                go_wp2_with fail
                go_region_held3 (fun w' => w'.rangeAt w.heap.size 0 cs ∧ w'.cell? ⟨w.heap.size, k, none⟩ = some (.int .u32 (z : Int))) (first | (exact ⟨hr0, hc0⟩) | (exact K1.out _ _ B5 (by assumption)) | (exact K2.out _ _ (by assumption))) (first
                  | (go_at_call 32; refine (hcall.out _).mono ?_; rintro e w5 ⟨rfl, B5⟩; have B6 : Below wr.heap.size wr w5 := (Below.refl _ wr).drew.trans B5; have c5 := (hC.out.kept' B6).cell k hk32; have f5 := (hC.out.kept' B6).frozen k))
                have hB5 : Hid (Below w.heap.size w w5) := hB.out.trans (B6.mono hB.out.size)
                have hA5 : Hid (Arr w5 w.heap.size 51 .u32 32 (fun j => F (2 ^ j))) := hA.out.kept' B6
                have hC5 : Hid (Arr w5 g2 51 .u32 32 f) := hC.out.kept' B6
                clear K1 K2 hcall hone hcl hi51 hr0 hc0 c5 f5 B5 u51
                go_wp2_with fail
                go_roundw
                case rel =>
                  exact ⟨k + 1, fun j => if j = k then zz else f j, by omega, by go_num, hB5.out.setCell (p := ⟨g2, k, none⟩) (Nat.le_of_lt hlt.out) _, hA5.out.other ⟨g2, k, none⟩ _ hne.out, hC5.out.set k zz, hnew⟩
                case measure => simp [intOf]; omega
              · obtain rfl : k = 32 := by omega
                have hC' : Hid (Arr wr g2 51 .u32 32 (fun j => F (F (2 ^ j)))) := arr_le hC.out hf.out
                clear hC hf
                go_wp2_with (first
                  | (refine wpList_load51 rfl (.tmp 11) rfl g2 _ rfl hC'.out ?_)
                  | (refine wpList_store51 rfl (.tmp 8) (.tmp 46) rfl w.heap.size _ (fun j => F (F (2 ^ j))) rfl rfl hA.out ?_
                     intro w7 hs7 A7 B7'
                     have B7 := hide (B7' w.heap.size w (Nat.le_refl _) hB.out)
                     replace A7 := hide A7
                     clear B7' hs7))
                go_roundw
                case rel => exact ⟨_, r / 2, fun v => F (F v), by omega, v64 (by omega), rfl, hG2, B7, A7⟩
                case measure => simp [intOf]; omega
        · obtain rfl : r = 0 := by omega
          have hx := xor32 hG.out.ha hb
          have he : Hid (y = Sn (8 * n) a) := hG.out.eq
          go_wp2_with fail
          go_ret2
          exact ⟨by rw [← he.out, ← hx]; rfl, hB.out⟩
end Go.Proofs.YtmfllalmnhkakaaDoor
