/-
  Sets of bytes: others, onlyByte.
-/
import Derived.Test.YtnbhpojcckhlmaaDoorC
import Derived.Lib.TrailingZeros
import Derived.Laws.Bits128
namespace Go.Proofs.YtnbhpojcckhlmaaDoor
open Go.RowKit
set_option linter.unusedVariables false
set_option linter.unusedSimpArgs false

theorem one23 : ∀ w, (sizeOf 23).run Tryd.prog w = .ok 1 w := fun w => by kernel_rfl
theorem idx25 (s : S4) (k : Nat) (h : k < 4) (w : World) : (Instr.index 25 (setV s) (.int .i64 (k : Int))).run Tryd.prog w = .ok (.int .u64 (s.get k)) w := by
  rcases (show k = 0 ∨ k = 1 ∨ k = 2 ∨ k = 3 by omega) with rfl | rfl | rfl | rfl <;> kernel_rfl
theorem wr64 (k : Nat) (h : k < 1000000) : IntKind.i64.wrap (k : Int) = (k : Int) := by rw [IntKind.wrap_i64]; omega
/-- A number, all bits of it turned. -/
def nt (x : Int) : Int := bits BinOp.xor IntKind.u64 IntKind.u64.max x
/-- The first k numbers of o from s. -/
def mapK (f : Int → Int → Int) (o s : S4) : Nat → S4
  | 0 => o
  | k + 1 => (mapK f o s k).put k (f ((mapK f o s k).get k) (s.get k))
def oth (s : S4) : S4 := mapK (fun _ y => nt y) noSet s 4
set_option maxHeartbeats 2000000 in
theorem others_any (s : S4) (w : World) : Calls Tryd.prog 45 #[setV s] w fun e w' => e = .returned (setV (oth s)) ∧ Below w.heap.size w w' := by
  have H := St.start Nope w
  go_enter Tryd.func45, Tryd.ntmps45
  go_wp2_with (first | (with_reducible refine at_alloc 25 ?_; refine wl_alloc25 H ?_; clear H; intro g w' H h1 h2; clear h1 h2) | (with_reducible refine at_box 25 ?_; refine wl_box25 H rfl ?_; clear H; intro g w' H h1 h2; clear h1 h2) | (with_reducible refine at_load 25 ?_; refine wl_load25 2 H rfl rfl ?_))
  rename_i g1 w1 g2 w2 K hK
  go_loopw [7] (fun b wr => ∃ k : Nat, k ≤ 4 ∧ b = .int .i64 (k : Int) ∧ Hid (St Nope w wr [(true, g, 25, setA (mapK (fun _ y => nt y) noSet s k)), (true, g2, 25, setA noSet), (true, g1, 25, setA s)])) (fun b _ => 4 - (intOf b).toNat)
  case atStart => exact ⟨0, by omega, rfl, H⟩
  case round =>
    obtain ⟨k, hk, rfl, H2⟩ := hrel
    clear H
    have H := H2.out
    clear H2
    by_cases hlt : k < 4
    · have i1 : (k : Int) < 4 := by omega
      have hw := wr64 k (by omega)
      have hi := hide (fun w => idx25 s k hlt w)
      have hi2 := fun w => hi.out w
      clear hi
      go_wp2_with (first | (with_reducible refine at_store 23 ?_; refine wl_store1 0 k 23 (v := .int .u64 (nt (s.get k))) H rfl rfl rfl (by rw [setA_size]; exact hlt) one23 rfl ?_; clear H; intro w' H))
      go_roundw
      case rel => exact ⟨k + 1, by omega, by go_num, (by
        have h4 := H
        simp only [List.set_cons_zero] at h4
        rw [setA_put _ _ hlt] at h4
        exact h4 : St Nope w _ _)⟩
      case measure => simp [intOf]; omega
    · obtain rfl : k = 4 := by omega
      go_wp2_with (first | (with_reducible refine at_load 25 ?_; refine wl_load25 0 H rfl rfl ?_) | (with_reducible refine at_store 25 ?_; refine wl_store25 1 H rfl rfl rfl ?_; clear H; intro w' H))
      refine bodyPost_ret (results_cell0 rfl _ _ g2 _ rfl (load25 (H.get 1 rfl))) rfl ?_
      exact ⟨rfl, H.below⟩
/-- How many bits are set, as the library reckons it. -/
def oc1 (x : Int) : Int := IntKind.u64.wrap (bits BinOp.and IntKind.u64 (x / 2) 6148914691236517205 + bits BinOp.and IntKind.u64 x 6148914691236517205)
def oc2 (x : Int) : Int := IntKind.u64.wrap (bits BinOp.and IntKind.u64 (x / 4) 3689348814741910323 + bits BinOp.and IntKind.u64 x 3689348814741910323)
def oc3 (x : Int) : Int := bits BinOp.and IntKind.u64 (IntKind.u64.wrap (x / 16 + x)) 1085102592571150095
def oc4 (x : Int) : Int := IntKind.u64.wrap (x + x / 256)
def oc5 (x : Int) : Int := IntKind.u64.wrap (x + x / 65536)
def oc6 (x : Int) : Int := IntKind.u64.wrap (x + x / 4294967296)
def oc (x : Int) : Int := bits BinOp.and IntKind.i64 (wrap64 (oc6 (oc5 (oc4 (oc3 (oc2 (oc1 x))))))) 127
theorem ones_any (x : Int) (w : World) : Calls Tryd.prog 51 #[.int .u64 x] w fun e w' => e = .returned (.int .i64 (oc x)) ∧ w' = w := by
  go_enter Tryd.func51, Tryd.ntmps51
  go_wp2
  go_ret
  exact ⟨rfl, rfl⟩

/-- The table of the library lies in memory as its text lays it. -/
def Tab (w : World) : Prop := ∀ j, j < 64 → w.cell? ⟨1, j, none⟩ = some (.int .u8 ((Lib.deBruijn64tab.getD j 0 : Nat) : Int))
theorem Tab.pos {w : World} (h : Tab w) : 1 < w.heap.size := World.block_lt_of_cell? w _ (h 0 (by decide))
theorem Tab.kept {w w' : World} {B : Nat} (h : Tab w) (hb : Below B w w') (hB : 1 < B) : Tab w' := fun i hi => (hb.cell (p := ⟨1, i, none⟩) hB).trans (h i hi)
theorem Tab.below {w w' : World} (h : Tab w) (hb : Below w.heap.size w w') : Tab w' := h.kept hb h.pos
theorem Tab.but {S : Nat → Prop} {w w' : World} (h : Tab w) (hb : But S w w') (hS : ¬ S 1) : Tab w' := fun i hi => (World.cell?_of_block (hb.block 1 h.pos hS)).trans (h i hi)
theorem Tab.st {S : Nat → Prop} {w0 w : World} {L : List Ent} (h : Tab w0) (H : St S w0 w L) (hS : ¬ S 1) : Tab w := h.but H.but hS
def tz (x : Nat) : Nat := Lib.ctz 64 x
theorem tz_key (x a : Nat) (hx : x < 18446744073709551616) (hx0 : x ≠ 0) (hlow : x &&& (18446744073709551616 - x) = a) :
    IntKind.u64.wrap (bits BinOp.and IntKind.u64 (x : Int) (IntKind.u64.wrap (-(x : Int))) * 285870213051353865) / 288230376151711744 = ((a * 285870213051353865 % 18446744073709551616 / 288230376151711744 : Nat) : Int) := by
  have e1 : IntKind.u64.wrap (-(x : Int)) = ((18446744073709551616 - x : Nat) : Int) := by rw [IntKind.wrap_u64]; omega
  rw [e1, u64_and_nat x _ hx (by omega), hlow, IntKind.wrap_u64]
  omega
set_option maxHeartbeats 1000000 in
theorem tz_core (x k idx : Nat) (w : World) (hx0 : ((x : Int) == 0) = false)
    (key : IntKind.u64.wrap (bits BinOp.and IntKind.u64 (x : Int) (IntKind.u64.wrap (-(x : Int))) * 285870213051353865) / 288230376151711744 = (idx : Int))
    (hi : idx < 64) (hk : k < 64) (hcell : w.cell? ⟨1, idx, none⟩ = some (.int .u8 k)) :
    Calls Tryd.prog 52 #[.int .u64 (x : Int)] w fun e w' => e = .returned (.int .i64 (k : Int)) ∧ w' = w := by
  go_enter Tryd.func52, Tryd.ntmps52
  go_wp2_with (simp only [key])
  go_ret
  exact ⟨rfl, rfl⟩
theorem low_bit (x : Nat) (h0 : 0 < x) (hx : x < 18446744073709551616) : x &&& (18446744073709551616 - x) = 2 ^ tz x ∧ tz x < 64 := Lib.lowest_bit 64 x (by omega) hx
theorem tz_any (x : Nat) (w : World) (h0 : 0 < x) (hx : x < 18446744073709551616) (hT : Tab w) :
    Calls Tryd.prog 52 #[.int .u64 (x : Int)] w fun e w' => e = .returned (.int .i64 ((tz x : Nat) : Int)) ∧ w' = w := by
  obtain ⟨hlow, hk⟩ := low_bit x h0 hx
  obtain ⟨hi, htab⟩ := Lib.deBruijn64_at _ hk
  have hcell := hT _ hi
  rw [htab] at hcell
  exact tz_core x _ _ w (by simp; omega) (tz_key x _ hx (by omega) hlow) hi hk hcell
theorem tz_i (y : Int) (w : World) (h0 : 0 < y) (hx : y < 18446744073709551616) (hT : Tab w) :
    Calls Tryd.prog 52 #[.int .u64 y] w fun e w' => e = .returned (.int .i64 ((tz y.toNat : Nat) : Int)) ∧ w' = w := by
  have := tz_any y.toNat w (by omega) (by omega) hT
  rwa [show ((y.toNat : Nat) : Int) = y by omega] at this
theorem oc_range (x : Int) : 0 ≤ oc x ∧ oc x ≤ 127 := by
  unfold oc
  rw [i64_and127]
  omega
/-- The numbers of a set are numbers of 64 bits. -/
def OkS (s : S4) : Prop := ∀ k, k < 4 → 0 ≤ s.get k ∧ s.get k < 18446744073709551616
theorem get_put (s : S4) (q k : Nat) (x : Int) (hq : q < 4) (hk : k < 4) : (s.put q x).get k = if q = k then x else s.get k := by
  rcases (show k = 0 ∨ k = 1 ∨ k = 2 ∨ k = 3 by omega) with rfl | rfl | rfl | rfl <;> rcases (show q = 0 ∨ q = 1 ∨ q = 2 ∨ q = 3 by omega) with rfl | rfl | rfl | rfl <;> rfl
theorem OkS.put {s : S4} (h : OkS s) (q : Nat) (hq : q < 4) {x : Int} (hx : 0 ≤ x ∧ x < 18446744073709551616) : OkS (s.put q x) := fun k hk => by
  rw [get_put s q k x hq hk]
  split
  · exact hx
  · exact h k hk
theorem noSet_ok : OkS noSet := fun k hk => by
  rcases (show k = 0 ∨ k = 1 ∨ k = 2 ∨ k = 3 by omega) with rfl | rfl | rfl | rfl <;> exact ⟨by decide, by decide⟩
theorem or_range {x y : Int} (hx : 0 ≤ x ∧ x < 18446744073709551616) (hy : 0 ≤ y ∧ y < 18446744073709551616) : 0 ≤ bits BinOp.or IntKind.u64 x y ∧ bits BinOp.or IntKind.u64 x y < 18446744073709551616 := by
  rw [u64_or x y hx.1 hx.2 hy.1 hy.2]
  have := Nat.or_lt_two_pow (n := 64) (x := x.toNat) (y := y.toNat) (by omega) (by omega)
  omega
theorem nt_range {y : Int} (hy : 0 ≤ y ∧ y < 18446744073709551616) : 0 ≤ nt y ∧ nt y < 18446744073709551616 := by
  unfold nt
  rw [u64_xor _ y (by decide) (by decide) hy.1 hy.2]
  have := Nat.xor_lt_two_pow (n := 64) (x := IntKind.u64.max.toNat) (y := y.toNat) (by decide) (by omega)
  omega
theorem bit_range (b : Nat) : 0 ≤ bit b ∧ bit b < 18446744073709551616 := by
  unfold bit
  rw [IntKind.wrap_u64]
  omega
theorem OkS.add {s : S4} (h : OkS s) (b : Nat) (hb : b ≤ 255) : OkS (s.add b) := h.put _ (by omega) (or_range (h _ (by omega)) (bit_range b))
theorem spn_ok (lo : Nat) : ∀ n, lo + n ≤ 256 → OkS (spn lo n)
  | 0, _ => noSet_ok
  | n + 1, h => (spn_ok lo n (by omega)).add _ (by omega)
theorem span_ok (lo hi : Nat) (hl : lo ≤ 255) (hh : hi ≤ 255) : OkS (span lo hi) := spn_ok lo _ (by omega)
theorem mapK_ok {f : Int → Int → Int} {o s : S4} (ho : OkS o) (hs : OkS s) (hf : ∀ x y, (0 ≤ x ∧ x < 18446744073709551616) → (0 ≤ y ∧ y < 18446744073709551616) → 0 ≤ f x y ∧ f x y < 18446744073709551616) : ∀ k, k ≤ 4 → OkS (mapK f o s k)
  | 0, _ => ho
  | k + 1, h => (mapK_ok ho hs hf k (by omega)).put k (by omega) (hf _ _ (mapK_ok ho hs hf k (by omega) k (by omega)) (hs k (by omega)))
theorem oth_ok {s : S4} (h : OkS s) : OkS (oth s) := mapK_ok noSet_ok h (fun _ y _ hy => nt_range hy) 4 (by omega)
/-- How many bits of the first k numbers are set, and where the last number that is not 0 has its lowest one. -/
def cnt (s : S4) : Nat → Int
  | 0 => 0
  | k + 1 => if s.get k = 0 then cnt s k else cnt s k + oc (s.get k)
def posn (s : S4) : Nat → Int
  | 0 => 0
  | k + 1 => if s.get k = 0 then posn s k else (k : Int) * 64 + (tz (s.get k).toNat : Int)
theorem cnt_range (s : S4) : ∀ k, 0 ≤ cnt s k ∧ cnt s k ≤ 127 * (k : Int)
  | 0 => by simp [cnt]
  | k + 1 => by
    have h1 := cnt_range s k
    have h2 := oc_range (s.get k)
    unfold cnt
    split <;> omega
theorem posn_range {s : S4} (h : OkS s) : ∀ k, k ≤ 4 → 0 ≤ posn s k ∧ posn s k ≤ 255
  | 0, _ => by simp [posn]
  | k + 1, hk => by
    have h1 := posn_range h k (by omega)
    unfold posn
    split
    · exact h1
    · rename_i h0
      have h3 := h k (by omega)
      have := (low_bit (s.get k).toNat (by omega) (by omega)).2
      omega
/-- The byte of a set, if it has just one. -/
def only (s : S4) : Option Int := if cnt s 4 = 1 then some (posn s 4) else none
set_option maxHeartbeats 2000000 in
theorem only_any (s : S4) (hs : OkS s) (w : World) (hT : Tab w) : Calls Tryd.prog 38 #[setV s] w fun e w' => e = .returned (.tuple #[.int .u8 ((only s).getD 0), .bool (only s).isSome]) ∧ Below w.heap.size w w' := by
  have H := St.start Nope w
  go_enter Tryd.func38, Tryd.ntmps38
  go_wp2_with (first | (with_reducible refine at_box 25 ?_; refine wl_box25 H rfl ?_; clear H; intro g w' H h1 h2; clear h1 h2) | (with_reducible refine at_load 25 ?_; refine wl_load25 0 H rfl rfl ?_))
  go_loopw [4, 5, 9] (fun n p b wr => ∃ k : Nat, k ≤ 4 ∧ n = .int .i64 (cnt s k) ∧ p = .int .i64 (posn s k) ∧ b = .int .i64 (k : Int) ∧ Hid (St Nope w wr [(true, g, 25, setA s)])) (fun _ _ b _ => 4 - (intOf b).toNat)
  case atStart => exact ⟨0, by omega, rfl, rfl, rfl, H⟩
  case round =>
    obtain ⟨k, hk, rfl, rfl, rfl, H2⟩ := hrel
    clear H
    have H := H2.out
    clear H2
    have hT2 := hide (hT.st H (fun h => h))
    by_cases hlt : k < 4
    · have i1 : (k : Int) < 4 := by omega
      have hi2 := fun w => idx25 s k hlt w
      have hr := hs k hlt
      by_cases hz : s.get k = 0
      · have e1 : Hid (cnt s (k + 1) = cnt s k) := by show cnt s (k + 1) = _; simp [cnt, hz]
        have e2 : Hid (posn s (k + 1) = posn s k) := by show posn s (k + 1) = _; simp [posn, hz]
        rw [hz] at hi2
        clear hz hr
        replace hs := hide hs
        go_wp2_with fail
        go_roundw
        case rel => exact ⟨k + 1, by omega, by rw [e1.out], by rw [e2.out], by go_num, H⟩
        case measure => simp [intOf]; omega
      · have e1 : Hid (cnt s (k + 1) = cnt s k + oc (s.get k)) := by show cnt s (k + 1) = _; simp [cnt, hz]
        have e2 : Hid (posn s (k + 1) = (k : Int) * 64 + (tz (s.get k).toNat : Int)) := by show posn s (k + 1) = _; simp [posn, hz]
        have T := hide (fun w hT => tz_i (s.get k) w (by omega) hr.2 hT)
        have ht := (low_bit (s.get k).toNat (by omega) (by omega)).2
        have hc := cnt_range s k
        have ho := oc_range (s.get k)
        have hz2 : (s.get k != 0) = true := by simpa using hz
        replace hz := hide hz
        obtain ⟨x, hx⟩ : ∃ x, s.get k = x := ⟨_, rfl⟩
        rw [hx] at hi2 e1 e2 T ht ho hz2
        replace hs := hide hs
        replace hx := hide hx
        replace hz2 := hz2
        obtain ⟨t, htt⟩ : ∃ t, tz x.toNat = t := ⟨_, rfl⟩
        rw [htt] at e2 T ht
        go_wp2_with fail
        refine (ones_any x _).mono ?_
        rintro e w1 ⟨rfl, rfl⟩
        go_wp2_with fail
        refine (T.out _ hT2.out).mono ?_
        rintro e w1 ⟨rfl, rfl⟩
        go_wp2_with fail
        go_roundw
        case rel => exact ⟨k + 1, by omega, by rw [e1.out], by rw [e2.out], by go_num, H⟩
        case measure => simp [intOf]; omega
    · obtain rfl : k = 4 := by omega
      have hp := posn_range hs 4 (by omega)
      by_cases h1 : cnt s 4 = 1
      · have e : Hid (only s = some (posn s 4)) := by show only s = _; simp [only, h1]
        have e1 : (posn s 4) % 256 = posn s 4 := by omega
        replace hs := hide hs
        rw [h1]
        clear h1
        go_wp2_with fail
        go_ret2
        exact ⟨by rw [e.out]; simp [e1], H.below⟩
      · have e : Hid (only s = none) := by show only s = _; simp [only, h1]
        have h2 : (cnt s 4 != 1) = true := by simpa using h1
        replace hs := hide hs
        replace h1 := hide h1
        go_wp2_with fail
        go_ret2
        exact ⟨by rw [e.out]; rfl, H.below⟩
end Go.Proofs.YtnbhpojcckhlmaaDoor
