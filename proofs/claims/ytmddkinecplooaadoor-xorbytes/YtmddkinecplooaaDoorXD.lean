/-
  math/bits.Len64, TrailingZeros64; noughts; formOf.
-/
import Derived.Test.YtmddkinecplooaaDoorXC
import Derived.Laws.Bits64b
namespace Go.Proofs.YtmddkinecplooaaDoor
open Go.RowKit
set_option linter.unusedVariables false
set_option linter.unusedSimpArgs false

/-- n is the number of bits of x. -/
def IsLen (x n : Int) : Prop := 0 ≤ n ∧ n ≤ 64 ∧ x < 2 ^ n.toNat ∧ (0 < n → 2 ^ (n.toNat - 1) ≤ x)
def Bl (y t : Nat) : Prop := t ≤ 8 ∧ y < 2 ^ t ∧ (0 < t → 2 ^ (t - 1) ≤ y)

abbrev TAB : ByteArray := { data := #[0, 1, 2, 2, 3, 3, 3, 3, 4, 4, 4, 4, 4, 4, 4, 4, 5, 5, 5, 5, 5, 5, 5, 5, 5, 5, 5, 5, 5, 5, 5, 5, 6, 6, 6, 6, 6, 6, 6, 6, 6, 6, 6, 6, 6, 6, 6, 6, 6, 6, 6, 6, 6, 6, 6, 6, 6, 6, 6, 6, 6, 6, 6, 6, 7, 7, 7, 7, 7, 7, 7, 7, 7, 7, 7, 7, 7, 7, 7, 7, 7, 7, 7, 7, 7, 7, 7, 7, 7, 7, 7, 7, 7, 7, 7, 7, 7, 7, 7, 7, 7, 7, 7, 7, 7, 7, 7, 7, 7, 7, 7, 7, 7, 7, 7, 7, 7, 7, 7, 7, 7, 7, 7, 7, 7, 7, 7, 7, 8, 8, 8, 8, 8, 8, 8, 8, 8, 8, 8, 8, 8, 8, 8, 8, 8, 8, 8, 8, 8, 8, 8, 8, 8, 8, 8, 8, 8, 8, 8, 8, 8, 8, 8, 8, 8, 8, 8, 8, 8, 8, 8, 8, 8, 8, 8, 8, 8, 8, 8, 8, 8, 8, 8, 8, 8, 8, 8, 8, 8, 8, 8, 8, 8, 8, 8, 8, 8, 8, 8, 8, 8, 8, 8, 8, 8, 8, 8, 8, 8, 8, 8, 8, 8, 8, 8, 8, 8, 8, 8, 8, 8, 8, 8, 8, 8, 8, 8, 8, 8, 8, 8, 8, 8, 8, 8, 8, 8, 8, 8, 8, 8, 8, 8, 8, 8, 8, 8, 8, 8, 8, 8, 8, 8, 8, 8, 8] }
theorem byte_getD (b : ByteArray) (i : Nat) (h : i < b.size) : b[i] = b.data.toList.getD i 0 := by
  have h' : i < b.data.toList.length := by simpa using h
  simp only [List.getD, List.getElem?_eq_getElem h', Option.getD_some]
  rfl
def tabOk (i : Nat) : Bool := (TAB.data.toList.getD i 0).toNat ≤ 8 && i < 2 ^ (TAB.data.toList.getD i 0).toNat && ((TAB.data.toList.getD i 0).toNat == 0 || 2 ^ ((TAB.data.toList.getD i 0).toNat - 1) ≤ i)
theorem tab_all : (List.range 256).all tabOk = true := by decide +kernel
theorem tab_size : TAB.size = 256 := by decide +kernel
theorem tab (i : Nat) (h : i < TAB.size) : Bl i (TAB[i]).toNat := by
  have h1 : tabOk i = true := List.all_eq_true.1 tab_all i (List.mem_range.2 (tab_size ▸ h))
  rw [byte_getD TAB i h]
  unfold tabOk at h1
  generalize (TAB.data.toList.getD i 0).toNat = t at *
  simp only [Bool.and_eq_true, Bool.or_eq_true, decide_eq_true_eq, beq_iff_eq] at h1
  exact ⟨h1.1.1, h1.1.2, fun h => by rcases h1.2 with h2 | h2 <;> omega⟩

theorem isLen_of (x : Int) (d k t : Nat) (h0 : 0 ≤ x) (hk : k ≤ 56) (hd : d = 2 ^ k) (hpos : 0 < k → d ≤ x) (hb : Bl ((x / (d : Int)).toNat) t) : IsLen x ((k : Int) + t) := by
  obtain ⟨x, rfl⟩ := Int.eq_ofNat_of_zero_le h0
  obtain ⟨h1, h2, h3⟩ := hb
  subst hd
  have e1 : ((x : Int) / ((2 ^ k : Nat) : Int)).toNat = x / 2 ^ k := by rw [← Int.natCast_ediv, Int.toNat_natCast]
  rw [e1] at h2 h3
  have e2 : ((k : Int) + t).toNat = k + t := by omega
  have hp : 0 < 2 ^ k := Nat.pow_pos (by omega)
  refine ⟨by omega, by omega, ?_, ?_⟩
  · rw [e2]
    have : x < 2 ^ (k + t) := by
      rw [Nat.pow_add]
      exact (Nat.div_lt_iff_lt_mul hp).1 h2 |> fun h => by rw [Nat.mul_comm]; exact h
    exact_mod_cast this
  · intro hpos'
    rw [e2]
    by_cases ht : 0 < t
    · have h4 := h3 ht
      rw [Nat.le_div_iff_mul_le hp, ← Nat.pow_add] at h4
      have : k + t - 1 = t - 1 + k := by omega
      rw [this]
      exact_mod_cast h4
    · have ht0 : t = 0 := by omega
      subst ht0
      have hk0 : 0 < k := by omega
      have h5 := hpos hk0
      have h6 : x / 2 ^ k < 1 := by simpa using h2
      have h7 : 2 ^ k ≤ x := by exact_mod_cast h5
      have := Nat.div_pos h7 hp
      omega

theorem len_end (x : Int) (D : Int) (d k : Nat) (t : Nat) (K : Int) (hK : K = k) (hD : D = d) (h0 : 0 ≤ x) (hk : k ≤ 56) (hd : d = 2 ^ k) (hpos : 0 < k → (d : Int) ≤ x) (hb : Bl ((x / D).toNat) t) :
    IsLen x (wrap64 (K + wrap64 t)) := by
  subst hK hD
  have ht : t ≤ 8 := hb.1
  rw [w64 (t : Int) (by omega), w64 _ (by omega)]
  exact isLen_of x d k t h0 hk hd hpos hb
theorem len_end0 (x : Int) (t : Nat) (h0 : 0 ≤ x) (hb : Bl x.toNat t) : IsLen x (wrap64 (wrap64 t)) := by
  have h := len_end x 1 1 0 t 0 rfl rfl h0 (by omega) rfl (fun h => by omega) (by simpa using hb)
  simpa using h

set_option maxRecDepth 100000 in
set_option maxHeartbeats 1000000 in
theorem len64_any (x : Int) (w : World) (h0 : 0 ≤ x) (h1 : x < 18446744073709551616) :
    Calls Tryd.prog 59 #[.int .u64 x] w fun e w' => ∃ n : Int, e = .returned (.int .i64 n) ∧ w' = w ∧ IsLen x n := by
  go_enter Tryd.func59, Tryd.ntmps59
  go_wp2
  all_goals go_ret
  all_goals refine ⟨_, rfl, rfl, ?_⟩
  · refine len_end x 72057594037927936 72057594037927936 56 _ 56 rfl rfl h0 (by omega) (by decide) (by omega) ?_
    rw [show x / 72057594037927936 = x / 4294967296 / 65536 / 256 by omega]; exact tab _ _
  · refine len_end x 281474976710656 281474976710656 48 _ 48 rfl rfl h0 (by omega) (by decide) (by omega) ?_
    rw [show x / 281474976710656 = x / 4294967296 / 65536 by omega]; exact tab _ _
  · refine len_end x 1099511627776 1099511627776 40 _ 40 rfl rfl h0 (by omega) (by decide) (by omega) ?_
    rw [show x / 1099511627776 = x / 4294967296 / 256 by omega]; exact tab _ _
  · refine len_end x 4294967296 4294967296 32 _ 32 rfl rfl h0 (by omega) (by decide) (by omega) ?_
    exact tab _ _
  · refine len_end x 16777216 16777216 24 _ 24 rfl rfl h0 (by omega) (by decide) (by omega) ?_
    rw [show x / 16777216 = x / 65536 / 256 by omega]; exact tab _ _
  · refine len_end x 65536 65536 16 _ 16 rfl rfl h0 (by omega) (by decide) (by omega) ?_
    exact tab _ _
  · refine len_end x 256 256 8 _ 8 rfl rfl h0 (by omega) (by decide) (by omega) ?_
    exact tab _ _
  · exact len_end0 x _ h0 (tab _ _)


theorem len_of {x : Nat} {n : Int} (h0 : 0 < x) (hx : x < 18446744073709551616) (h : IsLen (x : Int) n) : n = 64 - ((lz x : Nat) : Int) := by
  obtain ⟨h1, h2, h3, h4⟩ := h
  obtain ⟨m, rfl⟩ := Int.eq_ofNat_of_zero_le h1
  simp only [Int.toNat_natCast] at h3 h4
  have h3' : x < 2 ^ m := by exact_mod_cast h3
  have hm : 0 < m := by
    rcases Nat.eq_zero_or_pos m with rfl | h
    · simp at h3'; omega
    · exact h
  have h4' : 2 ^ (m - 1) ≤ x := by exact_mod_cast h4 (by omega)
  have e : lz x = 64 - m := lz_eq (by omega) (by rw [show 63 - (64 - m) = m - 1 by omega]; exact h4') (by rw [show 64 - (64 - m) = m by omega]; exact h3')
  omega
theorem len_all {n : Int} (h : IsLen 18446744073709551615 n) : n = 64 := by
  have := len_of (x := 18446744073709551615) (by decide) (by decide) h
  rw [this]
  decide +kernel

/-- The table of the library lies in memory as its text lays it. -/
def Tab (w : World) : Prop := ∀ j, j < 64 → w.cell? ⟨0, j, none⟩ = some (.int .u8 ((Lib.deBruijn64tab.getD j 0 : Nat) : Int))
theorem Tab.pos {w : World} (h : Tab w) : 0 < w.heap.size := World.block_lt_of_cell? w _ (h 0 (by decide))
theorem Tab.kept {w w' : World} {B : Nat} (h : Tab w) (hb : Below B w w') (hB : 0 < B) : Tab w' := fun i hi => (hb.cell (p := ⟨0, i, none⟩) hB).trans (h i hi)
theorem Tab.below {w w' : World} (h : Tab w) (hb : Below w.heap.size w w') : Tab w' := h.kept hb h.pos

theorem tz_key (x a : Nat) (hx : x < 18446744073709551616) (hx0 : x ≠ 0) (hlow : x &&& (18446744073709551616 - x) = a) :
    IntKind.u64.wrap (bits BinOp.and IntKind.u64 (x : Int) (IntKind.u64.wrap (-(x : Int))) * 285870213051353865) / 288230376151711744 = ((a * 285870213051353865 % 18446744073709551616 / 288230376151711744 : Nat) : Int) := by
  have e1 : IntKind.u64.wrap (-(x : Int)) = ((18446744073709551616 - x : Nat) : Int) := by rw [IntKind.wrap_u64]; omega
  rw [e1, u64_and_nat x _ hx (by omega), hlow, IntKind.wrap_u64]
  omega

set_option maxHeartbeats 1000000 in
theorem tz_core (x k idx : Nat) (w : World) (hx0 : ((x : Int) == 0) = false)
    (key : IntKind.u64.wrap (bits BinOp.and IntKind.u64 (x : Int) (IntKind.u64.wrap (-(x : Int))) * 285870213051353865) / 288230376151711744 = (idx : Int))
    (hi : idx < 64) (hk : k < 64) (hcell : w.cell? ⟨0, idx, none⟩ = some (.int .u8 k)) :
    Calls Tryd.prog 60 #[.int .u64 (x : Int)] w fun e w' => e = .returned (.int .i64 (k : Int)) ∧ w' = w := by
  go_enter Tryd.func60, Tryd.ntmps60
  go_wp2_with (simp only [key])
  go_ret
  exact ⟨rfl, rfl⟩
theorem low_bit (x : Nat) (h0 : 0 < x) (hx : x < 18446744073709551616) : x &&& (18446744073709551616 - x) = 2 ^ tz x ∧ tz x < 64 := Lib.lowest_bit 64 x (by omega) hx
theorem tz_any (x : Nat) (w : World) (h0 : 0 < x) (hx : x < 18446744073709551616) (hT : Tab w) :
    Calls Tryd.prog 60 #[.int .u64 (x : Int)] w fun e w' => e = .returned (.int .i64 ((tz x : Nat) : Int)) ∧ w' = w := by
  obtain ⟨hlow, hk⟩ := low_bit x h0 hx
  obtain ⟨hi, htab⟩ := Lib.deBruijn64_at _ hk
  have hcell := hT _ hi
  rw [htab] at hcell
  exact tz_core x _ _ w (by simp; omega) (tz_key x _ hx (by omega) hlow) hi hk hcell

set_option maxHeartbeats 1000000 in
theorem noughts_any (x : Nat) (w : World) (h0 : 0 < x) (hx : x < 18446744073709551616) (hT : Tab w) :
    Calls Tryd.prog 57 #[.int .u64 (x : Int)] w fun e w' => e = .returned (.agg #[.int .i64 ((lz x : Nat) : Int), .int .i64 ((tz x : Nat) : Int)]) ∧ Below w.heap.size w w' := by
  have XX := Bx.new w 81 #[.int .i64 0, .int .i64 0]
  have B0 : Hid (Below w.heap.size w (w.alloc (.cells #[.int .i64 0, .int .i64 0] 81))) := (Below.refl _ w).alloc (Nat.le_refl _) _
  have X2 := (XX.set2 (.int .i64 ((lz x : Nat) : Int)) (.int .i64 ((tz x : Nat) : Int))).st2
  obtain ⟨p0, p1, p2, p3, p4⟩ := XX.st2
  have o0 := X2.c0
  have o1 := X2.c1
  have b2 := hide (below_set2 B0.out (Nat.le_refl _) (.int .i64 ((lz x : Nat) : Int)) (.int .i64 ((tz x : Nat) : Int)))
  have T1 := hide (tz_any x _ h0 hx (hT.below B0.out))
  have hL := hide (fun n => len_of (n := n) h0 hx)
  have hlz := lz_le x
  have L1 := hide (fun w => len64_any (x : Int) w (by omega) (by omega))
  have L0 := hide (fun w => len64_any 18446744073709551615 w (by decide) (by decide))
  have e0 : bits BinOp.xor IntKind.u64 IntKind.u64.max 0 = 18446744073709551615 := by decide +kernel
  clear X2 hT
  generalize lz x = A at *
  generalize tz x = B at *
  have hA : (A : Int) ≤ 63 := by omega
  go_enter Tryd.func57, Tryd.ntmps57
  go_wp2_with fail
  refine (L0.out _).mono ?_
  rintro e wq ⟨n, rfl, rfl, hn⟩
  obtain rfl := len_all hn
  go_wp2_with fail
  refine (L1.out _).mono ?_
  rintro e wq ⟨n, rfl, rfl, hn⟩
  obtain rfl := hL.out n hn
  clear hn
  have e1 : (64 : Int) - (64 - (A : Int)) = (A : Int) := by omega
  go_wp2_with fail
  refine T1.out.mono ?_
  rintro e wq ⟨rfl, rfl⟩
  go_wp2_with fail
  refine bodyPost_ret (v := .agg #[.int .i64 (A : Int), .int .i64 (B : Int)]) (by simp [results, Tryd.f57, go_sem, o0, o1]) rfl ?_
  exact ⟨rfl, by first | exact b2.out | exact (Below.refl _ w).alloc (Nat.le_refl _) _⟩
end Go.Proofs.YtmddkinecplooaaDoor
