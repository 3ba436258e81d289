/-
  The walk of the reference's Writer.Bytes.
-/
import Derived.Test.YtmddkinecplooaaDoorO
import Derived.Deep.RegionHeld3
namespace Go.Proofs.YtmddkinecplooaaDoor
open Go.RowKit
set_option linter.unusedVariables false

theorem bit_set {l : List Int} {T N i q s : Nat} (hl : ∀ x ∈ l, 0 ≤ x ∧ x ≤ 255) (hN : l.length = N) (hi : i < 8 * N) (hq : i / 8 = q) (hs : i % 8 = s) (h : num l = T * 2 ^ (8 * N - i)) :
    (l.getD q 0).toNat + 2 ^ (7 - s) ≤ 255 ∧ num (l.set q (((l.getD q 0).toNat + 2 ^ (7 - s) : Nat) : Int)) = (2 * T + 1) * 2 ^ (8 * N - (i + 1)) := by
  have hg := num_get l q (by omega) hl
  have hp : 256 ^ (l.length - 1 - q) = 2 ^ (8 * (N - 1 - q)) := by rw [hN, pow256]
  rw [hp, h, show 8 * N - i = (8 - s) + 8 * (N - 1 - q) by omega, Nat.pow_add, ← Nat.mul_assoc, Nat.mul_div_cancel _ (Nat.two_pow_pos _)] at hg
  have e8 : (256 : Nat) = 2 ^ s * 2 ^ (8 - s) := by rw [← Nat.pow_add, show s + (8 - s) = 8 by omega]
  rw [e8, Nat.mul_mod_mul_right] at hg
  have hT : T % 2 ^ s < 2 ^ s := Nat.mod_lt _ (Nat.two_pow_pos _)
  have e7 : 2 ^ (8 - s) = 2 * 2 ^ (7 - s) := by rw [show 8 - s = (7 - s) + 1 by omega, Nat.pow_succ, Nat.mul_comm]
  constructor
  · have h1 : T % 2 ^ s * 2 ^ (8 - s) + 2 ^ (8 - s) ≤ 256 := by
      rw [e8]
      calc T % 2 ^ s * 2 ^ (8 - s) + 2 ^ (8 - s) = (T % 2 ^ s + 1) * 2 ^ (8 - s) := by rw [Nat.add_mul, Nat.one_mul]
        _ ≤ 2 ^ s * 2 ^ (8 - s) := Nat.mul_le_mul_right _ hT
    have h2 := Nat.two_pow_pos (7 - s)
    omega
  · have hset := num_set l q (((l.getD q 0).toNat + 2 ^ (7 - s) : Nat) : Int) (by omega)
    rw [hp, Int.toNat_natCast, h, Nat.add_mul] at hset
    have e9 : 2 ^ (7 - s) * 2 ^ (8 * (N - 1 - q)) = 2 ^ (8 * N - (i + 1)) := by rw [← Nat.pow_add, show 7 - s + 8 * (N - 1 - q) = 8 * N - (i + 1) by omega]
    have e10 : 2 ^ (8 * N - i) = 2 * 2 ^ (8 * N - (i + 1)) := by rw [show 8 * N - i = (8 * N - (i + 1)) + 1 by omega, Nat.pow_succ, Nat.mul_comm]
    rw [e9, e10, ← Nat.mul_assoc, Nat.mul_comm T 2] at hset
    rw [Nat.add_mul, Nat.one_mul]
    omega

theorem u8 {a b : Int} (h : a = b) : Value.int .u8 a = .int .u8 b := by rw [h]

set_option maxHeartbeats 2000000 in
theorem rbytes_any {w : World} {base p : Nat} {v : Value} {L : List Bool} (h : RW w base p v L) (hL : L.length ≤ 524288) :
    Calls Tryd.prog 17 #[.pointer (some ⟨p, 0, none⟩)] w fun e w' => ∃ l, Holds l (numB L) L.length ∧ Ret w l e w' := by
  obtain ⟨a, c, hv⟩ := h.slice
  have c0 := h.c0
  rw [hv] at c0
  obtain ⟨n, hn⟩ : ∃ n, L.length = n := ⟨_, rfl⟩
  rw [hn] at c0 hv
  obtain ⟨N, hN⟩ : ∃ N, (n + 7) / 8 = N := ⟨_, rfl⟩
  have eN : ((n : Int) + 7) / 8 = (N : Int) := by omega
  have hnb : (n : Int) ≤ 524288 := by omega
  have hNb : N ≤ 65536 := by omega
  have hN1 : n ≤ 8 * N := by omega
  have hN2 : 8 * N < n + 8 := by omega
  have hz0 : Hid (num (List.replicate N (0 : Int)) = numB (L.take 0) * 2 ^ (8 * N - 0)) := by
    show _ = _
    rw [List.take_zero, numB_nil, Nat.zero_mul]
    have : ∀ k, num (List.replicate k (0 : Int)) = 0 := by
      intro k
      induction k with
      | zero => rfl
      | succ k ih => rw [List.replicate_succ', num_snoc, ih]; rfl
    exact this N
  replace hN := hide hN
  replace hn := hide hn
  replace h := hide h
  replace hv := hide hv
  go_enter Tryd.func17, Tryd.ntmps17
  go_wp2_with (at_make; refine wpList_make2 rfl (.tmp 13) (.tmp 13) rfl N N _ _ rfl rfl eN eN (Nat.le_refl _) (by omega) ?_; intro w1 O1 B1)
  replace O1 := hide O1
  replace B1 := hide B1
  clear c0
  go_loopw [4] (fun i wr => ∃ (k : Nat) (l : List Int), k ≤ n ∧ i = .int .i64 (k : Int) ∧ Hid (l.length = N ∧ (∀ x ∈ l, 0 ≤ x ∧ x ≤ 255)) ∧ Hid (num l = numB (L.take k) * 2 ^ (8 * N - k)) ∧ Hid (wr.ownsRow w.heap.size 5 1 (.slice (some ⟨w.heap.size, 0, none⟩) N N) N (l.map (Value.int .u8))) ∧ Hid (Below w.heap.size w wr)) (fun i _ => n - (intOf i).toNat)
  case atStart =>
    refine ⟨0, List.replicate N 0, Nat.zero_le _, rfl, ⟨by simp, fun x hx => ?_⟩, hz0, O1, B1⟩
    have := (List.mem_replicate.1 hx).2
    omega
  case round =>
    clear O1 B1 hz0
    obtain ⟨k, l, hk, rfl, hl, hnum, O, B⟩ := hrel
    have RO := hide (h.out.below B.out (Nat.le_refl _))
    have c0 := RO.out.c0
    rw [hv.out] at c0
    by_cases hkn : k < n
    · have hk1 : (k : Int) < (n : Int) := by omega
      obtain ⟨gv, ha⟩ : ∃ gv, a = some ⟨gv, 0, none⟩ := by
        rcases h.out.own.2 with ⟨_, h1⟩ | ⟨g, cap, cur, h1, _⟩
        · have := hn.out; omega
        · rw [hv.out] at h1; cases h1; exact ⟨g, rfl⟩
      subst ha
      have cb : wr.cell? ⟨gv, k, none⟩ = some (.bool (L.getD k false)) := by
        have := RO.out.own.cells (g := gv) (by rw [hv.out]; rfl) k (.bool (L.getD k false)) (by simp [List.getD, List.getElem?_eq_getElem (show k < L.length by have := hn.out; omega)])
        rwa [add_plain, Nat.zero_add] at this
      have htk := hide (numB_take L k (by have := hn.out; omega))
      cases hb : L.getD k false with
      | false =>
        rw [hb] at cb htk
        have hnum2 : Hid (num l = numB (L.take (k + 1)) * 2 ^ (8 * N - (k + 1))) := by
          show _ = _
          rw [htk.out, hnum.out, show 8 * N - k = (8 * N - (k + 1)) + 1 by omega, Nat.pow_succ]
          simp only [Bool.toNat_false, Nat.add_zero]
          rw [Nat.mul_comm 2 (numB _), Nat.mul_assoc, Nat.mul_comm 2]
        go_wp2_with fail
        go_roundw
        case rel => exact ⟨k + 1, l, by omega, by go_num, hl, hnum2, O, B⟩
        case measure => simp [intOf]; omega
      | true =>
        rw [hb] at cb htk
        obtain ⟨q, hq⟩ : ∃ q, k / 8 = q := ⟨_, rfl⟩
        obtain ⟨s, hs⟩ : ∃ s, k % 8 = s := ⟨_, rfl⟩
        have e1 : (k : Int) / 8 = (q : Int) := by omega
        have e2 : (k : Int) % 8 = (s : Int) := by omega
        have hs8 : s < 8 := by omega
        have hqN : q < N := by omega
        have hqN' : (q : Int) < (N : Int) := by omega
        have BS := bit_set hl.out.2 hl.out.1 (show k < 8 * N by omega) hq hs hnum.out
        have hby := getD_byteR hl.out.2 q (by rw [hl.out.1]; exact hqN)
        obtain ⟨cc, hcc⟩ : ∃ cc : Nat, l.getD q 0 = (cc : Int) := ⟨(l.getD q 0).toNat, by omega⟩
        rw [hcc, Int.toNat_natCast] at BS
        have cq : wr.cell? ⟨w.heap.size, q, none⟩ = some (.int .u8 (cc : Int)) := by
          have := O.out.cells (g := w.heap.size) rfl q (.int .u8 (l.getD q 0)) (by simp [List.getD, List.getElem?_eq_getElem (show q < l.length by rw [hl.out.1]; exact hqN)])
          rw [add_plain, Nat.zero_add, hcc] at this
          exact this
        have fq := O.out.frozenAt q
        have hnum2 : Hid (num (l.set q ((cc + 2 ^ (7 - s) : Nat) : Int)) = numB (L.take (k + 1)) * 2 ^ (8 * N - (k + 1))) := by
          show _ = _
          rw [htk.out, BS.2]
          rfl
        have hzb := BS.1
        have ON := hide (O.out.stored q (.int .u8 ((cc + 2 ^ (7 - s) : Nat) : Int))).1
        rw [show (l.map (Value.int .u8)).set q (.int .u8 ((cc + 2 ^ (7 - s) : Nat) : Int)) = (l.set q ((cc + 2 ^ (7 - s) : Nat) : Int)).map (Value.int .u8) by rw [List.map_set]] at ON
        have BN := hide (B.out.setCell (p := ⟨w.heap.size, q, none⟩) (Nat.le_refl _) (.int .u8 ((cc + 2 ^ (7 - s) : Nat) : Int)))
        have hl2 : Hid ((l.set q ((cc + 2 ^ (7 - s) : Nat) : Int)).length = N ∧ ∀ x ∈ l.set q ((cc + 2 ^ (7 - s) : Nat) : Int), 0 ≤ x ∧ x ≤ 255) := by
          refine ⟨by rw [List.length_set]; exact hl.out.1, fun x hx => ?_⟩
          rcases List.mem_or_eq_of_mem_set hx with h1 | h1
          · exact hl.out.2 x h1
          · rw [h1]; exact ⟨Int.natCast_nonneg _, Int.ofNat_le.2 hzb⟩
        have hfin : Hid (128 / 2 ^ s = 2 ^ (7 - s)) := by
          show _ = _
          rw [show (128 : Nat) = 2 ^ (7 - s) * 2 ^ s by rw [← Nat.pow_add, show 7 - s + s = 7 by omega], Nat.mul_div_cancel _ (Nat.two_pow_pos _)]
        clear BS hcc hby hq hs
        generalize 2 ^ (7 - s) = tw at *
        go_wp2_with fail
        go_loop [5, 6] (fun wo i => ∃ j u : Nat, j ≤ s ∧ i = .int .i64 (j : Int) ∧ wo = .int .u8 (u : Int) ∧ u ≤ 128 ∧ Hid (u = 128 / 2 ^ j)) (fun _ i => s - (intOf i).toNat)
        case atStart => exact ⟨0, 128, Nat.zero_le _, rfl, rfl, Nat.le_refl _, rfl⟩
        case round =>
          obtain ⟨j, u, hj, rfl, rfl, hub, hu⟩ := hrel
          by_cases hjs : j < s
          · have hj1 : (j : Int) < (s : Int) := by omega
            have hu2 : Hid (u / 2 = 128 / 2 ^ (j + 1)) := by
              show _ = _
              rw [hu.out, Nat.div_div_eq_div_mul, ← Nat.pow_succ]
            go_wp2_with fail
            go_round
            case rel => exact ⟨j + 1, u / 2, by omega, by go_num, u8 (by omega), by omega, hu2⟩
            case measure => simp [intOf]; omega
          · obtain rfl : s = j := by omega
            obtain rfl : u = tw := by rw [hu.out]; exact hfin.out
            have ez : (cc : Int) + (u : Int) = ((cc + u : Nat) : Int) := by omega
            have ez2 : ((cc + u : Nat) : Int) % 256 = ((cc + u : Nat) : Int) := by omega
            generalize cc + u = z at *
            go_wp2_with fail
            go_roundw
            case rel => exact ⟨k + 1, l.set q (z : Int), by omega, by go_num, hl2, hnum2, ON, BN⟩
            case measure => simp [intOf]; omega
    · obtain rfl : n = k := by omega
      have HH : Hid (Holds l (numB L) n) := by
        have h1 := hnum.out
        rw [List.take_of_length_le (by have := hn.out; omega)] at h1
        have h2 := numB_lt L
        rw [hn.out] at h2
        refine ⟨hl.out.2, by rw [hl.out.1]; exact hN1, by rw [hl.out.1]; exact hN2, by rw [hl.out.1]; exact h1, h2⟩
      go_wp2_with fail
      go_ret
      exact ⟨l, by rw [hn.out]; exact HH.out, ret_of_owns O.out hl.out.2 B.out⟩
end Go.Proofs.YtmddkinecplooaaDoor
