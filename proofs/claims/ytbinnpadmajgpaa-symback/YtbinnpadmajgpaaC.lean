/-
  Get, common.
-/
import Derived.Test.YtbinnpadmajgpaaB
namespace Go.Proofs.Ytbinnpadmajgpaa
open Go.RowKit Go.Shelf
set_option linter.unusedVariables false
set_option linter.unusedSimpArgs false
set_option maxRecDepth 100000

set_option maxHeartbeats 1000000 in
theorem get_any (a : Addr) (n c : Nat) (L : List Tx) (i : Nat) (w : World) (h : HasS w (some a) n c L) (hi : i < n) (hn : n ≤ 1000000000) : Calls Try.prog 14 #[.agg #[.slice (some a) n c], .int .i64 i] w fun e w' => e = .returned (.tuple #[encStr (L.getD i []), .int .i64 0]) ∧ Below w.heap.size w w' := by
  obtain ⟨b, off, e, hb, hc⟩ := h.cells i hi
  cases e
  generalize L.getD i [] = s at *
  clear h
  have k2 : (i : Int) < (n : Int) := by omega
  have k3 : (0 : Int) ≤ (i : Int) := by omega
  have k4 : ¬ ((n : Int) ≤ (i : Int)) := by omega
  have k5 : ¬ ((i : Int) < 0) := by omega
  have LV := hide (fun w => void_any (some ⟨b, off, none⟩) n c w)
  have LL := hide (fun w => len_any (some ⟨b, off, none⟩) n c w)
  go_enter Try.func14, Try.ntmps14
  go_wp2_with fail
  refine (LV.out _).mono ?_
  rintro e w1 ⟨rfl, rfl⟩
  go_wp2_with fail
  refine (LL.out _).mono ?_
  rintro e w2 ⟨rfl, B2⟩
  have B0 : Below w.heap.size w (w.alloc (.cells #[.slice (some ⟨b, off, none⟩) n c] 27)) := (Below.refl _ w).alloc (Nat.le_refl _) _
  have hk : w2.cell? ⟨w.heap.size, 0, none⟩ = some (.slice (some ⟨b, off, none⟩) n c) := (B2.cell (p := ⟨w.heap.size, 0, none⟩) (by simp)).trans (by simp)
  have hc2 : w2.cell? ⟨b, off + i, none⟩ = some (encStr s) := (B2.cell (p := ⟨b, off + i, none⟩) (by simp; omega)).trans ((B0.cell (p := ⟨b, off + i, none⟩) (by simpa using hb)).trans hc)
  have B3 := hide (B0.trans (B2.mono B0.size))
  clear hc B2 B0
  go_wp2_with fail
  go_ret2
  exact ⟨rfl, B3.out⟩

theorem below_drewN {B : Nat} {w w' : World} (h : Below B w w') (n : Nat) : Below B w (w'.drewN n) := by
  refine ⟨h.os, ?_, h.output, h.size, h.block⟩
  exact h.tape
theorem drewN_more {w wr : World} (h : ∃ z, wr = w.drewN z) (n : Nat) : ∃ z, wr.drewN n = w.drewN z := by
  obtain ⟨z, rfl⟩ := h
  exact ⟨z + n, by simp [World.drewN, Nat.add_assoc]⟩
theorem byte_get (x : Tx) (i : Nat) (h : i < (⟨x.toArray⟩ : ByteArray).size) : ((⟨x.toArray⟩ : ByteArray)[i]'h) = x.getD i 0 := by
  have h' : i < x.length := by rw [str_size] at h; exact h
  have : (⟨x.toArray⟩ : ByteArray)[i] = x.toArray[i]'(by simpa using h') := rfl
  rw [this]
  simp [List.getD, List.getElem?_eq_getElem h']
set_option maxHeartbeats 1000000 in
theorem common_q (x y : Tx) (w : World) (hx : x.length ≤ 1000000000) (hy : y.length ≤ 1000000000) : Calls Try.prog 37 #[encStr x, encStr y] w fun e w' => e = .returned (.int .i64 (cmn x y : Nat)) ∧ ∃ q, w' = w.drewN q := by
  obtain ⟨n, hn⟩ : ∃ n, x.length = n := ⟨_, rfl⟩
  obtain ⟨m, hm⟩ : ∃ m, y.length = m := ⟨_, rfl⟩
  obtain ⟨q, hq⟩ : ∃ q, min n m = q := ⟨_, rfl⟩
  have sx : (⟨x.toArray⟩ : ByteArray).size = n := by rw [str_size, hn]
  have sy : (⟨y.toArray⟩ : ByteArray).size = m := by rw [str_size, hm]
  have bx := hide (byte_get x)
  have by' := hide (byte_get y)
  have q1 : q ≤ n := by omega
  have q2 : q ≤ m := by omega
  have q3 := hide (show q = n ∨ q = m by omega)
  have e1 : (if (m : Int) < (n : Int) then (m : Int) else (n : Int)) = (q : Int) := by split <;> omega
  have e2 : min (n : Int) (m : Int) = (q : Int) := by omega
  have q4 : q ≤ 1000000000 := by omega
  have hn' := hide hn
  have hm' := hide hm
  clear hn hm hq hx hy
  go_enter Try.func37, Try.ntmps37
  go_wp2_with fail
  go_loopw [13] (fun iv wr => ∃ i : Nat, i ≤ q ∧ iv = .int .i64 (i : Int) ∧ Hid (∀ j, j < i → x.getD j 0 = y.getD j 0) ∧ Hid (∃ z, wr = w.drewN z)) (fun iv _ => q - (intOf iv).toNat)
  case atStart => exact ⟨0, Nat.zero_le _, rfl, (fun j hj => by omega : ∀ j, j < 0 → x.getD j 0 = y.getD j 0), ⟨0, rfl⟩⟩
  case round =>
    obtain ⟨i, hi, rfl, hsm, B⟩ := hrel
    by_cases hlt : i < q
    · have j1 : (i : Int) < (q : Int) := by omega
      have j2 : (0 : Int) ≤ (i : Int) := by omega
      have j3 : (i : Int) < (n : Int) := by omega
      have j4 : (i : Int) < (m : Int) := by omega
      have i1 : i < (⟨x.toArray⟩ : ByteArray).size := by omega
      have i2 : i < (⟨y.toArray⟩ : ByteArray).size := by omega
      have f1 := bx.out i i1
      have f2 := by'.out i i2
      have hgo : Hid (x.getD i 0 = y.getD i 0 → ∀ j, j < i + 1 → x.getD j 0 = y.getD j 0) := fun e j hj => by
        rcases Nat.lt_or_ge j i with h | h
        · exact hsm.out j h
        · obtain rfl : j = i := by omega
          exact e
      have hno : Hid (x.getD i 0 ≠ y.getD i 0 → cmn x y = i) := fun e => cmn_eq x y i (by have := hn'.out; omega) (by have := hm'.out; omega) hsm.out (fun _ _ => e)
      generalize x.getD i 0 = t at *
      generalize y.getD i 0 = t' at *
      have j5 : i + 1 ≤ q := by omega
      by_cases he : t = t'
      · subst he
        replace hgo := hide (hgo.out rfl)
        go_wp2_with fail
        go_quiet (fail)
        go_wp2_with fail
        go_roundw
        case rel => exact ⟨i + 1, j5, by go_num, hgo, drewN_more B.out nq⟩
        case measure => simp [intOf]; omega
      · have hd := hno.out he
        have k1 : ((t.toNat : Int) != (t'.toNat : Int)) = true := by
          simp only [bne_iff_ne, ne_eq]
          intro e
          exact he (UInt8.toNat_inj.1 (by omega))
        replace he := hide he
        replace hd := hide hd
        go_wp2_with fail
        go_quiet (fail)
        go_wp2_with fail
        go_ret
        exact ⟨ret_int (by rw [hd.out]), drewN_more B.out nq⟩
    · obtain rfl : i = q := by omega
      have j1 : ¬ (i : Int) < (i : Int) := by omega
      have hd := hide (cmn_eq x y i (by have := hn'.out; omega) (by have := hm'.out; omega) hsm.out (fun a b => by
        have h1 := hn'.out; have h2 := hm'.out
        rcases q3.out with h | h <;> omega))
      go_wp2_with fail
      go_ret
      exact ⟨ret_int (by rw [hd.out]), B.out⟩
theorem common_any (x y : Tx) (w : World) (hx : x.length ≤ 1000000000) (hy : y.length ≤ 1000000000) : Calls Try.prog 37 #[encStr x, encStr y] w fun e w' => e = .returned (.int .i64 (cmn x y : Nat)) ∧ Below w.heap.size w w' :=
  (common_q x y w hx hy).mono fun e w' h => ⟨h.1, by obtain ⟨q, rfl⟩ := h.2; exact below_drewN (Below.refl _ _) q⟩
end Go.Proofs.Ytbinnpadmajgpaa
