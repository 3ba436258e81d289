/-
  The walk of the reference's Writer.Put.
-/
import Derived.Test.YtmddkinecplooaaDoorN
namespace Go.Proofs.YtmddkinecplooaaDoor
open Go.RowKit
set_option linter.unusedVariables false

set_option maxHeartbeats 1000000 in
theorem rput_arg {w : World} {p : Nat} (x n : Int) (hn : ¬ (0 ≤ n ∧ n ≤ 64)) :
    Calls Tryd.prog 11 #[.pointer (some ⟨p, 0, none⟩), .int .u64 x, .int .i64 n] w fun e w' => e = .returned (.int .i64 2) ∧ w' = w := by
  by_cases h0 : n < 0
  · go_enter Tryd.func11, Tryd.ntmps11
    go_wp2_with fail
    go_ret
    exact ⟨rfl, rfl⟩
  · have h1 : 64 < n := by omega
    go_enter Tryd.func11, Tryd.ntmps11
    go_wp2_with fail
    go_ret
    exact ⟨rfl, rfl⟩

theorem bools_oneCell (M : List Bool) : ∀ u ∈ M.map Value.bool, u.oneCell' = true := by
  intro u hu
  obtain ⟨b, _, rfl⟩ := List.mem_map.1 hu
  rfl

theorem rput_grow {w wr w2 : World} {base p : Nat} {v v2 : Value} {L M : List Bool} {n : Nat} (O : RW wr base p v L) (B : Below w.heap.size w wr) (hp : p < w.heap.size) (hv : ∀ k, v.ownBlock = some k → k < w.heap.size) (hM : M.length = n)
    (O2 : w2.ownsRow base 4 1 v2 (L.length + n) (L.map Value.bool ++ M.map Value.bool)) (G : wr.grownBy w2 v.ownBlock) (hat : v2.ownBlock = v.ownBlock ∨ v2.ownBlock = some wr.heap.size) :
    ∃ a2 c2, v2 = .slice a2 (L.length + n) c2 ∧ w2.cell? ⟨p, 0, none⟩ = some v ∧ w2.frozen? ⟨p, 0, none⟩ = false ∧ Hid (RW (w2.setCell ⟨p, 0, none⟩ v2) base p v2 (L ++ M)) ∧
      Hid (But (fp p v) w (w2.setCell ⟨p, 0, none⟩ v2)) ∧ Hid (∀ i, i < w.heap.size → v2.ownBlock = some i → v.ownBlock = some i) := by
  have hpw : w2.heap[p]? = wr.heap[p]? := G.block p O.lt (fun e => O.ne e.symm)
  have c0 : w2.cell? ⟨p, 0, none⟩ = some v := (World.cell?_of_block (a := ⟨p, 0, none⟩) hpw).trans O.c0
  have f0 : w2.frozen? ⟨p, 0, none⟩ = false := (World.frozen?_of_block (a := ⟨p, 0, none⟩) hpw).trans (O.fz 0)
  have hne : v2.ownBlock ≠ some p := by
    rcases hat with h | h
    · rw [h]; exact O.ne
    · rw [h]; intro e; have := O.lt; have : wr.heap.size = p := by simpa using e
      omega
  have hsl : ∃ a2 c2, v2 = .slice a2 (L.length + n) c2 := by
    rcases O2.2 with ⟨h1, h2⟩ | ⟨g, cap, cur, h1, _⟩
    · exact ⟨none, 0, by rw [h1, h2]⟩
    · exact ⟨_, _, h1⟩
  obtain ⟨a2, c2, hs⟩ := hsl
  have R : RW (w2.setCell ⟨p, 0, none⟩ v2) base p v2 (L ++ M) := by
    refine ⟨?_, O.ge, ?_, hne⟩
    · have := heap_setCell_same w2 p 0 _ 30 v2 (hpw.trans O.heap)
      exact this
    · rw [List.length_append, hM, List.map_append]
      exact owns_of_block O2 (fun k hk => Below.heap_setCell w2 _ _ k (fun e => hne (by rw [← show k = p from e]; exact hk)))
  have Bu : But (fp p v) w wr := but_of_below B _ (fun k h1 h2 => by omega)
  refine ⟨a2, c2, hs, c0, f0, R, (Bu.grown G (fun k hk hlt => .inr hk)).setCell (p := ⟨p, 0, none⟩) (fun _ => .inl rfl) _, ?_⟩
  intro i hi hk
  rcases hat with h | h
  · rw [← h]; exact hk
  · rw [h] at hk
    have : wr.heap.size = i := by simpa using hk
    have := B.size
    omega

set_option maxHeartbeats 2000000 in
theorem rput_ok {w : World} {base p : Nat} {v : Value} {L : List Bool} (h : RW w base p v L) (x n : Nat) (hx : x < 18446744073709551616) (hn : n ≤ 64) (hroom : L.length + n ≤ 524288) :
    Calls Tryd.prog 11 #[.pointer (some ⟨p, 0, none⟩), .int .u64 (x : Int), .int .i64 (n : Int)] w fun e w' => e = .returned (.int .i64 0) ∧ ∃ v' L', RW w' base p v' L' ∧ numB L' = numB L * 2 ^ n + x % 2 ^ n ∧ L'.length = L.length + n ∧ But (fp p v) w w' ∧ (∀ i, i < w.heap.size → v'.ownBlock = some i → v.ownBlock = some i) := by
  obtain ⟨a, c, hv⟩ := h.slice
  have c0 := h.c0
  rw [hv] at c0
  have hpl := hide h.lt
  have hvl : Hid (∀ k, v.ownBlock = some k → k < w.heap.size) := fun k hk => (h.own.lt k hk).2
  have hbs : Hid (base ≤ w.heap.size) := by have h1 := h.ge; have h2 := h.lt; show _ ≤ _; omega
  have hr : (L.length : Int) + (n : Int) ≤ 524288 := by omega
  have hr2 : decide (524288 < (L.length : Int) + (n : Int)) = false := by simp; omega
  have hz : Hid (x / 2 ^ 0 = x ∧ x % 2 ^ 0 = 0) := ⟨by simp, by simp [Nat.mod_one]⟩
  replace h := hide h
  replace hv := hide hv
  go_enter Tryd.func11, Tryd.ntmps11
  go_wp2_with (at_make; refine wpList_makeB rfl (.tmp 23) (.tmp 23) rfl n rfl rfl (by omega) ?_; intro w1 O1 B1 hs1)
  replace O1 := hide O1
  replace B1 := hide B1
  replace hs1 := hide hs1
  clear c0
  go_loopw [1, 8] (fun X i wr => ∃ (j y : Nat) (M : List Bool), j ≤ n ∧ i = .int .i64 ((j : Int) - 1) ∧ X = .int .u64 (y : Int) ∧ Hid (y = x / 2 ^ (n - j)) ∧ Hid (M.length = n) ∧ Hid (numB (M.drop j) = x % 2 ^ (n - j)) ∧ Hid (wr.ownsRow w.heap.size 4 1 (.slice (some ⟨w.heap.size, 0, none⟩) n n) n (M.map Value.bool)) ∧ Hid (Below w.heap.size w wr)) (fun _ i _ => (intOf i + 1).toNat)
  case atStart =>
    refine ⟨n, x, List.replicate n false, Nat.le_refl _, rfl, rfl, ?_, by show (List.replicate n false).length = n; simp, ?_, O1, B1⟩
    · rw [Nat.sub_self]; exact hz.out.1.symm
    · rw [Nat.sub_self, show (List.replicate n false).drop n = [] by simp]; exact hz.out.2.symm
  case round =>
    clear O1 B1 hs1 hz
    obtain ⟨j, y, M, hj, rfl, rfl, hy, hM, hN, O, B⟩ := hrel
    have hyb : y < 18446744073709551616 := by rw [hy.out]; exact Nat.lt_of_le_of_lt (Nat.div_le_self _ _) hx
    by_cases hj0 : j = 0
    · subst hj0
      simp only [show ((0 : Nat) : Int) - 1 = -1 from rfl]
      have RO := hide (h.out.below B.out (Nat.le_refl _))
      have c0 := RO.out.c0
      have hcel := hide (O.out.cells (g := w.heap.size) rfl)
      obtain ⟨i0, hi, hz0, hz1, hz2⟩ := info_parts info4
      replace hi := hide hi
      replace hz0 := hide hz0
      replace hz1 := hide hz1
      replace hz2 := hide hz2
      rw [hv.out] at c0
      go_wp2_with (at_builtin; refine wpList_append_own_at _ rfl (.tmp 43) (.tmp 44) 28 rfl base 4 i0 (.bool false) 1 1 Tryd.underlying28 hi.out hz0.out hz1.out hz2.out rfl (by decide) v L.length (L.map Value.bool) hv.out.symm RO.out.own ⟨w.heap.size, 0, none⟩ n n (M.map Value.bool) rfl (by rw [List.length_map, hM.out, Nat.mul_one]) hcel.out (bools_oneCell M) (by unfold maxLen; omega) (by omega) (by have h1 := hbs.out; have h2 := B.out.size; omega) ?_; intro v2 w2 O2 G2 _ hat; obtain ⟨a2, c2, rfl, d0, f0, R2, B2, S2⟩ := rput_grow RO.out B.out hpl.out hvl.out hM.out O2 G2 hat)
      go_ret
      refine ⟨rfl, _, _, R2.out, ?_, by rw [List.length_append, hM.out], B2.out, S2.out⟩
      have h9 := hN.out
      rw [show n - 0 = n by omega, List.drop_zero] at h9
      rw [numB_app, hM.out, h9]
    · obtain ⟨k, rfl⟩ : ∃ k, j = k + 1 := ⟨j - 1, by omega⟩
      have e1 : ((k + 1 : Nat) : Int) - 1 = (k : Int) := by omega
      have hk : (k : Int) < (n : Int) := by omega
      have hk0 : (0 : Int) ≤ (k : Int) := by omega
      have hset := hide (numB_set hM.out (show k < n by omega) hN.out)
      rw [← hy.out] at hset
      have hb : ((y : Int) % 2 == 1) = decide (y % 2 = 1) := by
        rw [Bool.eq_iff_iff, beq_iff_eq, decide_eq_true_iff]; omega
      have hy2 : Hid (y / 2 = x / 2 ^ (n - k)) := by
        show y / 2 = _
        rw [hy.out, Nat.div_div_eq_div_mul, ← Nat.pow_succ, show (n - (k + 1)).succ = n - k by omega]
      have ck : ∃ u, wr.cell? ⟨w.heap.size, k, none⟩ = some u := by
        rw [O.out.cellAt k (by omega)]
        exact ⟨_, List.getElem?_eq_getElem (by rw [List.length_map, hM.out]; omega)⟩
      obtain ⟨u, ck⟩ := ck
      have fk := O.out.frozenAt k
      have ON := hide (O.out.stored k (.bool (decide (y % 2 = 1))))
      have BN := hide (B.out.setCell (p := ⟨w.heap.size, k, none⟩) (Nat.le_refl _) (.bool (decide (y % 2 = 1))))
      rw [show (M.map Value.bool).set k (.bool (decide (y % 2 = 1))) = (M.set k (decide (y % 2 = 1))).map Value.bool by rw [List.map_set]] at ON
      have hM2 : Hid ((M.set k (decide (y % 2 = 1))).length = n) := by show _ = _; rw [List.length_set]; exact hM.out
      generalize decide (y % 2 = 1) = bb at *
      rw [e1]
      go_wp2_with fail
      go_roundw
      case rel => exact ⟨k, y / 2, M.set k bb, by omega, rfl, vu (by omega), hy2, hM2, hset, ON.out.1, BN⟩
      case measure => simp [intOf]
end Go.Proofs.YtmddkinecplooaaDoor
